/- JoKept, JoJoin, OpenSect, OpenVacts, DvArm: laid into one. -/
import Derived.Test.YtcdgbmeechnpiaaDoorMJ
import Derived.Test.YtcdgbmeechnpiaaDoorMS
import Derived.Deep.Slices
import Derived.Deep.Strs
import Derived.OpenShut
import Derived.Test.YtcdgbmeechnpiaaDoorMD
/- Own rows of what came in, beside a journal and its device. -/
namespace Go.Proofs.YtcdgbmeechnpiaaDoor
open Go.RowKit

theorem RowsC.append {B g' cap' : Nat} {w w5 w6 : World} {v u : Value} {us : List Value} {R : List (List Nat)} {bs : List Nat} {m : Nat} (h : RowsC B w v us R) (hm : m = us.length) (h5 : Below w.heap.size w w5) (hu : Lies w5 u bs) (hf : ∀ k, u.ownBlock = some k → bs ≠ [] → k < B)
    (hg : w5.grownBy w6 v.ownBlock) (hown : w6.ownsRow B 31 1 (.slice (some ⟨g', 0, none⟩) (m + 1) cap') (m + 1) (us ++ [u]))
    (hat : (Value.slice (some ⟨g', 0, none⟩) (m + 1) cap').ownBlock = v.ownBlock ∨ (Value.slice (some ⟨g', 0, none⟩) (m + 1) cap').ownBlock = some w5.heap.size) : RowsC B w6 (.slice (some ⟨g', 0, none⟩) (m + 1) cap') (us ++ [u]) (R ++ [bs]) := by
  refine ⟨h.rows.append hm h5 hu (fun k hk hne e => by have h1 := hf k hk hne; have h2 := (h.rows.lt e).1; omega) hg hown hat, fun i x cs k hx hc hk hne => ?_⟩
  by_cases hi : i < us.length
  · rw [List.getElem?_append_left hi] at hx
    rw [List.getElem?_append_left (by rw [← h.rows.len]; exact hi)] at hc
    exact h.far i x cs k hx hc hk hne
  · have hi2 : i = us.length := by have := (List.getElem?_eq_some_iff.1 hx).1; simp at this; omega
    subst hi2
    rw [List.getElem?_append_right (Nat.le_refl _), Nat.sub_self] at hx
    rw [h.rows.len, List.getElem?_append_right (Nat.le_refl _), Nat.sub_self] at hc
    cases hx
    cases hc
    exact hf k hk hne
theorem Sess.grown {B : Nat} {w w5 w6 : World} {J P : Nat} {z : Bool} {t frm n c : Nat} {R R' : List (List Nat)} {d : Dev} {v : Value} {us : List Value} (h : Sess B w J P z t frm n R c d) (hr : RowsC B w v us R') (h5 : Below w.heap.size w w5) (hg : w5.grownBy w6 v.ownBlock) : Sess B w6 J P z t frm n R c d := by
  have h' := h.on h5
  have hr' := hr.on h5
  exact h'.only (Only.grown hg) (fun e => row_ne h'.jo hr'.rows.row (by decide) e) (fun k hk e => hr'.dev h'.dev e hk)
theorem RowsAt.on {w w' : World} {v : Value} {A : List (List Nat)} (h : RowsAt w v A) (hb : Below w.heap.size w w') : RowsAt w' v A := by
  obtain ⟨a, c, hv, hr⟩ := h
  refine ⟨a, c, hv, fun hne => ?_⟩
  obtain ⟨b, off, ha, hc⟩ := hr hne
  refine ⟨b, off, ha, fun i bs hi => ?_⟩
  obtain ⟨u, h1, h2⟩ := hc i bs hi
  exact ⟨u, (hb.cell (p := ⟨b, off + i, none⟩) (cell_lt h1)).trans h1, lies_keep h2 hb⟩
theorem rowsAt_nil (w : World) : RowsAt w (.slice none 0 0) [] := ⟨none, 0, rfl, fun h => absurd rfl h⟩
/-- a slice that came in lies in the old memory -/
theorem lies_far {B : Nat} {w : World} {u : Value} {bs : List Nat} (h : Lies w u bs) (hB : w.heap.size ≤ B) : ∀ k, u.ownBlock = some k → bs ≠ [] → k < B := fun _ hk hne => Nat.lt_of_lt_of_le (h.block hk hne) hB
theorem pieces_small {m : Nat} (h : m ≤ 200) : pieces m ≤ 5 := by unfold pieces; omega
end Go.Proofs.YtcdgbmeechnpiaaDoor
/- append(done[:n:n], behind...): two own rows joined in new memory. -/
namespace Go.Proofs.YtcdgbmeechnpiaaDoor
open Go.RowKit

/-- an operation that is wanted, by what its run gives -/
theorem wpList_runs_want {P : Program} {ops : Array Oper} {rest : List Oper} {o : Oper} {a : Act} {w w' : World} {Q : Exit → Act → World → Prop} {v : Value} (d : Option Tmp) (hd : o.dst = d) (hw : Region.wanted o (yielded ops a.tmps) = true) (hr : (execOp a.eval o).run P w = .ok (.value v) w')
    (h : wpList P ops Q rest (a.put d v) w') : wpList P ops Q (o :: rest) a w := by
  subst hd
  refine wpList_step fun K hK => ?_
  rw [if_pos hw]
  unfold Oper.wp
  rw [hr]
  exact hK _ _ h
theorem sizeRow : (Tryd.prog.info? 31).map (·.size) = some 1 := by kernel_rfl
theorem bounds_head {P : Program} (w : World) (n cap k : Nat) (hk : k ≤ cap) : (Instr.sliceBounds true n cap none (some (.int .i64 (k : Int))) (some (.int .i64 (k : Int)))).run P w = .ok (0, k, k) w := by
  simp [Instr.sliceBounds, Instr.sliceBound, asIntOf, hk]
/-- s[:n:n] -/
theorem run_headR (w : World) {o : Oper} {a : Act} (x h m : Operand) (ho : o.op = .slice 32 x none (some h) (some m)) (a0 : Option Addr) (n cap k : Nat) (hx : a.eval x = .slice a0 n cap) (hh : a.eval h = .int .i64 (k : Int)) (hm : a.eval m = .int .i64 (k : Int)) (hk : k ≤ cap) :
    (execOp a.eval o).run Tryd.prog w = .ok (.value (.slice a0 k k)) w := by
  have hr := run_mid3 (P := Tryd.prog) w 32 31 Tryd.underlying32 sizeRow a0 n cap 0 k k _ _ _ (bounds_head w n cap k hk)
  have e : midS a0 k 0 k = .slice a0 k k := by
    unfold midS
    have : (if k = 0 then a0 else a0.map (·.add 0)) = a0 := by
      split
      · rfl
      · cases a0 <;> simp [Addr.add]
    rw [this, Nat.sub_zero]
  rw [e] at hr
  unfold execOp
  simp only [ho, hx, hh, hm, Option.map_some, Option.map_none, Sem.run_bind, hr, Result.andThen_ok, Sem.run_pure]
/-- an append, by its run -/
theorem run_appendR {P : Program} {w w' : World} {o : Oper} {a : Act} (x y : Operand) (t : TypeId) (ho : o.op = .call { callee := .builtin .append, args := #[x, y], argTypes := #[t, t] }) {u v v' : Value} (hx : a.eval x = u) (hy : a.eval y = v) (hr : (Builtin.append_ #[t, t] o.type #[u, v]).run P w = .ok v' w') :
    (execOp a.eval o).run P w = .ok (.value v') w' := by
  unfold execOp
  simp only [ho, resolve, invoke, builtin, Sem.run_bind, Sem.run_pure, Result.andThen_ok, List.map_toArray, List.map_cons, List.map_nil, hx, hy, hr]
theorem rows_fresh {w : World} {B c' : Nat} {us : List Value} {R : List (List Nat)} (hB : B ≤ w.heap.size) (hlen : us.length = R.length) (hl : ∀ (i : Nat) (u : Value) (bs : List Nat), us[i]? = some u → R[i]? = some bs → Lies w u bs ∧ ∀ k, u.ownBlock = some k → bs ≠ [] → k < B) (hc : us.length ≤ c') (hcm : c' ≤ maxLen) (zs : Array Value) (hz : zs.size = c' - us.length) :
    RowsC B (w.drew.alloc (.cells (us.toArray ++ zs) 31)) (.slice (some ⟨w.heap.size, 0, none⟩) us.length c') us R ∧ Below w.heap.size w (w.drew.alloc (.cells (us.toArray ++ zs) 31)) := by
  have hb : Below w.heap.size w (w.drew.alloc (.cells (us.toArray ++ zs) 31)) := below_undrew (w := w) (B := w.drew.heap.size) ((Below.refl w.drew.heap.size w.drew).alloc (Nat.le_refl _) _)
  refine ⟨⟨⟨⟨by rw [Nat.mul_one], .inr ⟨w.heap.size, c', us.toArray ++ zs, rfl, hB, heap_alloc_new w.drew _, hc, hcm, by simp [hz]; omega, ?_⟩⟩, hlen, fun i u bs hu hbs => ?_⟩, fun i u bs k hu hbs hk hne => (hl i u bs hu hbs).2 k hk hne⟩, hb⟩
  · rw [Nat.mul_one, Array.toList_append, List.take_left' (by simp)]
  · obtain ⟨h1, h2⟩ := hl i u bs hu hbs
    refine ⟨lies_keep h1 hb, fun k hk hne e => ?_⟩
    cases e
    have h3 : w.heap.size < B := h2 _ hk hne
    omega
theorem done_join {w : World} {B m cd : Nat} {ad : Option Addr} {usd usb : List Value} {D Bh : List (List Nat)} {vb : Value} (hd : RowsC B w (.slice ad m cd) usd D) (hb : RowsC B w vb usb Bh) (hB : B ≤ w.heap.size) (hm : m = D.length) (hne : Bh ≠ []) (hsz : D.length + Bh.length ≤ 1000) (ty : TypeId) :
    ∃ g' c' w', (Builtin.append_ #[32, 32] ty #[.slice (if D = [] then none else ad) m m, vb]).run Tryd.prog w = .ok (.slice (some ⟨g', 0, none⟩) (m + Bh.length) c') w' ∧ RowsC B w' (.slice (some ⟨g', 0, none⟩) (m + Bh.length) c') (usd ++ usb) (D ++ Bh) ∧ Below w.heap.size w w' := by
  obtain ⟨i, hi1, hi2, hi3, hi4⟩ := info_parts infoR
  have hlb := hb.rows.len
  have hld := hd.rows.len
  have hbp : 0 < Bh.length := List.length_pos_iff.2 hne
  have hl : ∀ (i : Nat) (u : Value) (bs : List Nat), (usd ++ usb)[i]? = some u → (D ++ Bh)[i]? = some bs → Lies w u bs ∧ ∀ k, u.ownBlock = some k → bs ≠ [] → k < B := fun i u bs hu hbs => by
    by_cases h : i < usd.length
    · rw [List.getElem?_append_left h] at hu
      rw [List.getElem?_append_left (by omega)] at hbs
      exact ⟨(hd.rows.data i u bs hu hbs).1, fun k hk hn => hd.far i u bs k hu hbs hk hn⟩
    · rw [List.getElem?_append_right (by omega)] at hu
      rw [List.getElem?_append_right (by omega), ← hld] at hbs
      exact ⟨(hb.rows.data _ u bs hu hbs).1, fun k hk hn => hb.far _ u bs k hu hbs hk hn⟩
  have hlen : (usd ++ usb).length = (D ++ Bh).length := by rw [List.length_append, List.length_append, hld, hlb]
  have hul : (usd ++ usb).length = m + Bh.length := by rw [List.length_append, hld, hlb, hm]
  obtain ⟨gb, cb, hvb, hcb⟩ : ∃ gb cb, vb = .slice (some ⟨gb, 0, none⟩) Bh.length cb ∧ ∀ j u, usb[j]? = some u → w.cell? ((⟨gb, 0, none⟩ : Addr).add j) = some u := by
    rcases hb.rows.row.2 with ⟨_, h0⟩ | ⟨g, cap, cur, hv, _, hg, _⟩
    · omega
    · have hrow := hb.rows.row
      rw [hv] at hrow
      exact ⟨g, cap, by rw [hv, hlb], fun j u hj => by rw [add_at, Nat.zero_add, hrow.cellAt j (by have := (List.getElem?_eq_some_iff.1 hj).1; omega), hj]⟩
  subst hvb
  by_cases hD : D = []
  · subst hD
    have hu0 : usd = [] := List.length_eq_zero_iff.1 (by rw [hld]; rfl)
    subst hu0
    have hm0 : m = 0 := hm
    subst hm0
    have hr := run_append_nil (P := Tryd.prog) w 32 ty 31 i _ Tryd.underlying32 hi1 hi2 ⟨gb, 0, none⟩ Bh.length cb usb (by rw [hi3, hlb, Nat.mul_one]) hcb hbp (by omega) (by rw [hi4]; omega)
    obtain ⟨h1, h2⟩ := rows_fresh (c' := grownCap w Bh.length 0 31) hB hlen hl (by rw [hul, Nat.zero_add]; exact grownCap_ge _ _ _ _) (grownCap_le_maxLen _ _ _ _ (by unfold maxLen; omega)) (Builtin.zeroCells (Value.slice none 0 0).cells (grownCap w Bh.length 0 31 - Bh.length)) (by rw [size_zeroCells, hul, Nat.zero_add]; simp [Value.cells])
    rw [hul] at h1
    rw [Nat.zero_add] at h1 ⊢
    rw [if_pos rfl]
    exact ⟨_, _, _, hr, h1, h2⟩
  · rw [if_neg hD]
    have hDp : 0 < D.length := List.length_pos_iff.2 hD
    obtain ⟨g, had, hcd⟩ : ∃ g, ad = some ⟨g, 0, none⟩ ∧ ∀ j u, usd[j]? = some u → w.cell? ((⟨g, 0, none⟩ : Addr).add j) = some u := by
      rcases hd.rows.row.2 with ⟨_, h0⟩ | ⟨g, cap, cur, hv, _, hg, _⟩
      · omega
      · have hrow := hd.rows.row
        rw [hv] at hrow
        cases hv
        exact ⟨g, rfl, fun j u hj => by rw [add_at, Nat.zero_add, hrow.cellAt j (by have := (List.getElem?_eq_some_iff.1 hj).1; omega), hj]⟩
    subst had
    have hr := run_append_grow (P := Tryd.prog) (w := w) 32 ty 31 i _ Tryd.underlying32 hi1 hi2 ⟨g, 0, none⟩ m m usd (by rw [hi3, hld, hm, Nat.mul_one]) hcd ⟨gb, 0, none⟩ Bh.length cb usb (by rw [hi3, hlb, Nat.mul_one]) hcb (by omega) (by omega) (growslice_fits (by omega) (by rw [hi4]; omega))
    obtain ⟨h1, h2⟩ := rows_fresh (c' := grownCap w (m + Bh.length) m 31) hB hlen hl (by rw [hul]; exact grownCap_ge _ _ _ _) (grownCap_le_maxLen _ _ _ _ (by unfold maxLen; omega)) (Builtin.zeroCells (Value.slice none 0 0).cells (grownCap w (m + Bh.length) m 31 - (m + Bh.length))) (by rw [size_zeroCells, hul]; simp [Value.cells])
    rw [hul, ← List.append_toArray] at h1
    rw [← List.append_toArray] at h2
    exact ⟨_, _, _, hr, h1, h2⟩
theorem done_self {w : World} {B m cd : Nat} {ad : Option Addr} {usd : List Value} {D : List (List Nat)} (hd : RowsC B w (.slice ad m cd) usd D) (hm : m = D.length) (ty : TypeId) :
    (Builtin.append_ #[32, 32] ty #[.slice (if D = [] then none else ad) m m, .slice none 0 0]).run Tryd.prog w = .ok (.slice (if D = [] then none else ad) m m) w := by
  obtain ⟨i, hi1, hi2, hi3, hi4⟩ := info_parts infoR
  by_cases hD : D = []
  · subst hD
    have hm0 : m = 0 := hm
    subst hm0
    rw [if_pos rfl]
    simp [Builtin.append_, run_underlying Tryd.underlying32, sizeOf, typeInfo, hi1, Builtin.lenOf, Builtin.firstCells]
  · rw [if_neg hD]
    have hDp : 0 < D.length := List.length_pos_iff.2 hD
    obtain ⟨g, had⟩ : ∃ g, ad = some ⟨g, 0, none⟩ := by
      rcases hd.rows.row.2 with ⟨_, h0⟩ | ⟨g, cap, cur, hv, _, hg, _⟩
      · have := hd.rows.len; omega
      · cases hv; exact ⟨g, rfl⟩
    subst had
    simp [Builtin.append_, run_underlying Tryd.underlying32, sizeOf, typeInfo, hi1, Builtin.lenOf, Builtin.firstCells, storeCells]
end Go.Proofs.YtcdgbmeechnpiaaDoor
/- A sector that came in, opened. -/
namespace Go.Proofs.YtcdgbmeechnpiaaDoor
open Go.RowKit Go.Deep Go.ChangeShapes Go.WideShapes

set_option maxRecDepth 100000 in
/-- a cell that is a slice of bytes -/
theorem open_cell {H : Type} {enc : TypeId × Value → H} {W : World} {spare : Nat → Bool} {held : Bool} {fuel : Nat} {cs : List Value} {x : DataW H × List MemPlace} (h : DataW.trod enc Tryd.prog W 0 spare held fuel 31 cs = some x) :
    ∃ u l, cs = [u] ∧ Lies W u l ∧ Fits u ∧ (∀ x ∈ l, x < 256) ∧ l.length ≤ maxLen := by
  rcases open_ints Tryd.underlying31 Tryd.underlying5 cellsU8 h with ⟨rfl, _⟩ | ⟨ad, len, cap, zs, rfl, _, hl, hm, hz, _, hcell, hw⟩
  · exact ⟨_, [], rfl, .inl ⟨rfl, rfl⟩, fits_slice (Nat.le_refl _), fun x h => by simp at h, by simp⟩
  · have hlz : len ≤ zs.length := by rw [hz]; split <;> omega
    have hlen : ((zs.take len).map Int.toNat).length = len := by rw [List.length_map, List.length_take]; omega
    have hin : ∀ x ∈ (zs.take len).map Int.toNat, x < 256 := by
      intro x hx
      obtain ⟨z, hz1, rfl⟩ := List.mem_map.1 hx
      have := bounds_u8 (hw z (List.mem_of_mem_take hz1))
      omega
    refine ⟨_, (zs.take len).map Int.toNat, rfl, ?_, fits_slice hl, hin, by rw [hlen]; omega⟩
    rcases Nat.eq_zero_or_pos len with h0 | h0
    · subst h0; exact .inr (.inl ⟨ad, cap, rfl, by simp⟩)
    · obtain ⟨b, off, rfl, hc⟩ := ints_at hcell (by omega)
      refine .inr (.inr ⟨b, off, cap, by rw [hlen], fun j hj => ?_⟩)
      rw [hlen] at hj
      rw [hc j (by omega)]
      have hjz : j < zs.length := by omega
      have hwj := bounds_u8 (hw zs[j] (List.getElem_mem hjz))
      have e1 : zs.getD j 0 = zs[j] := by simp [List.getD, List.getElem?_eq_getElem hjz]
      have e2 : ((zs.take len).map Int.toNat).getD j 0 = zs[j].toNat := by simp [List.getD, hj, List.getElem?_eq_getElem hjz]
      rw [e1, e2]
      congr 2; omega
theorem cellsU32 : Tryd.prog.cellsOf 38 = 1 := by kernel_rfl
theorem cellsBoo : Tryd.prog.cellsOf 4 = 1 := by kernel_rfl
theorem cellsSl : Tryd.prog.cellsOf 31 = 1 := by kernel_rfl
theorem cellsSt : Tryd.prog.cellsOf 92 = 2 := by kernel_rfl
theorem cellsSc : Tryd.prog.cellsOf 94 = 4 := by kernel_rfl
set_option maxRecDepth 100000 in
theorem open_sect {H : Type} {enc : TypeId × Value → H} {W : World} {spare : Nat → Bool} {held : Bool} {v : Value} {d : DataW H} {ps : List MemPlace} {r : Reach} {b0 : Nat} (hval : Value.okWide Tryd.prog W r b0 94 v)
    (hd : DataW.Trod enc Tryd.prog W 0 spare held 94 v d ps) : ∃ s u, v = secV s u ∧ Lies W u s.data ∧ Fits u ∧ s.In ∧ s.data.length ≤ maxLen := by
  obtain ⟨cs, rfl, hcs⟩ := okWide_struct Tryd.underlying94 hval
  obtain ⟨fuel, hf⟩ := hd
  rw [cellsSc] at hcs
  obtain ⟨y0, y1, y2, n, _, _, t0, t1, t2⟩ := trod_struct3 Tryd.underlying94 hf
  simp only [cellsSt, cellsBoo, cellsSl] at t0 t1 t2
  obtain ⟨z0, z1, n', _, _, t3, t4⟩ := trod_struct2 Tryd.underlying92 t0
  simp only [cellsU32] at t3 t4
  obtain ⟨cs, rfl⟩ : ∃ l : List Value, cs = l.toArray := ⟨cs.toList, by simp⟩
  match cs, hcs with
  | [u0, u1, u2, u3], _ =>
    obtain ⟨x0, e0, _, w0⟩ := DataW.trod_int Tryd.underlying38 t3
    obtain ⟨x1, e1, _, w1⟩ := DataW.trod_int Tryd.underlying38 t4
    obtain ⟨x2, e2, _⟩ := DataW.trod_bool Tryd.underlying4 t1
    obtain ⟨u, l, e3, h1, h2, h3, h4⟩ := open_cell t2
    simp [Value.cells] at e0 e1 e2 e3
    subst e0 e1 e2 e3
    have b0 := bounds_u32 w0
    have b1 := bounds_u32 w1
    refine ⟨⟨x0.toNat, x1.toNat, x2, l⟩, u3, ?_, h1, h2, ⟨by simp only; omega, by simp only; omega, h3⟩, h4⟩
    unfold secV
    have p0 : ((x0.toNat : Nat) : Int) = x0 := by omega
    have p1 : ((x1.toNat : Nat) : Int) = x1 := by omega
    simp only [p0, p1]
end Go.Proofs.YtcdgbmeechnpiaaDoor
/- A slice of acts that came in, opened. -/
namespace Go.Proofs.YtcdgbmeechnpiaaDoor
open Go.RowKit Go.Deep Go.ChangeShapes Go.WideShapes

/-- an act -/
structure VactL where
  kind : Int
  n : Int
  data : List Nat
  keep : Nat
  torn : Int
  bytes : Int
def VactL.In (x : VactL) : Prop := -9223372036854775808 ≤ x.kind ∧ x.kind ≤ 9223372036854775807 ∧ -9223372036854775808 ≤ x.n ∧ x.n ≤ 9223372036854775807 ∧ x.keep < 18446744073709551616 ∧ ∀ y ∈ x.data, y < 256
/-- an act, as it lies -/
def VactAt (W : World) (b off : Nat) (x : VactL) : Prop :=
  ∃ u, W.cell? ⟨b, off, none⟩ = some (.int .i64 x.kind) ∧ W.cell? ⟨b, off + 1, none⟩ = some (.int .i64 x.n) ∧ W.cell? ⟨b, off + 2, none⟩ = some u ∧ W.cell? ⟨b, off + 3, none⟩ = some (.int .u64 (x.keep : Int)) ∧ W.cell? ⟨b, off + 4, none⟩ = some (.int .i64 x.torn) ∧ W.cell? ⟨b, off + 5, none⟩ = some (.int .i64 x.bytes) ∧ Lies W u x.data
def VactsAt (W : World) (v : Value) (L : List VactL) : Prop :=
  ∃ a c, v = .slice a L.length c ∧ (L ≠ [] → ∃ b off, a = some ⟨b, off, none⟩ ∧ ∀ i x, L[i]? = some x → VactAt W b (off + i * 6) x)
theorem VactAt.keep {W W' : World} {b off : Nat} {x : VactL} (h : VactAt W b off x) (hb : Below W.heap.size W W') : VactAt W' b off x := by
  obtain ⟨u, h0, h1, h2, h3, h4, h5, h6⟩ := h
  have k : ∀ o v, W.cell? ⟨b, o, none⟩ = some v → W'.cell? ⟨b, o, none⟩ = some v := fun o v hv => (hb.cell (p := ⟨b, o, none⟩) (cell_lt hv)).trans hv
  exact ⟨u, k _ _ h0, k _ _ h1, k _ _ h2, k _ _ h3, k _ _ h4, k _ _ h5, lies_keep h6 hb⟩
section
variable {H : Type} {enc : TypeId × Value → H} {w : World} {base : Nat} {spare : Nat → Bool} {held : Bool} {P : Program}
theorem trod_struct6 {t : TypeId} {f0 f1 f2 f3 f4 f5 : Field} {fuel : Nat} {cs : List Value} {x : DataW H × List MemPlace} (ht : P.underlying t = some (.struct #[f0, f1, f2, f3, f4, f5])) (h : DataW.trod enc P w base spare held fuel t cs = some x) :
    ∃ y0 y1 y2 y3 y4 y5 n, DataW.trod enc P w base spare held n f0.type ((cs.drop f0.offset).take (P.cellsOf f0.type)) = some y0 ∧ DataW.trod enc P w base spare held n f1.type ((cs.drop f1.offset).take (P.cellsOf f1.type)) = some y1 ∧
      DataW.trod enc P w base spare held n f2.type ((cs.drop f2.offset).take (P.cellsOf f2.type)) = some y2 ∧ DataW.trod enc P w base spare held n f3.type ((cs.drop f3.offset).take (P.cellsOf f3.type)) = some y3 ∧ DataW.trod enc P w base spare held n f4.type ((cs.drop f4.offset).take (P.cellsOf f4.type)) = some y4 ∧ DataW.trod enc P w base spare held n f5.type ((cs.drop f5.offset).take (P.cellsOf f5.type)) = some y5 := by
  obtain ⟨xs, n, _, rfl, hl, hlen, hf⟩ := DataW.trod_struct ht h
  match xs, hlen with
  | [y0, y1, y2, y3, y4, y5], _ => exact ⟨y0, y1, y2, y3, y4, y5, n, by simpa using hf 0 f0 rfl, by simpa using hf 1 f1 rfl, by simpa using hf 2 f2 rfl, by simpa using hf 3 f3 rfl, by simpa using hf 4 f4 rfl, by simpa using hf 5 f5 rfl⟩
end
theorem cellsVact : Tryd.prog.cellsOf 35 = 6 := by kernel_rfl
theorem cellsVI : Tryd.prog.cellsOf 3 = 1 := by kernel_rfl
theorem cellsVU : Tryd.prog.cellsOf 33 = 1 := by kernel_rfl

set_option maxRecDepth 100000 in
theorem open_vacts {H : Type} {enc : TypeId × Value → H} {W : World} {held : Bool} {v : Value} {d : DataW H} {ps : List MemPlace} {r : Reach} {b0 : Nat} (hval : Value.okWide Tryd.prog W r b0 22 v)
    (hd : DataW.Trod enc Tryd.prog W 0 (fun _ => true) held 22 v d ps) : ∃ L : List VactL, VactsAt W v L ∧ (∀ x ∈ L, x.In) ∧ L.length ≤ maxLen := by
  obtain ⟨a, len, cap, rfl⟩ := okWide_slice Tryd.underlying22 hval
  obtain ⟨fuel, hf⟩ := hd
  rcases open_slice Tryd.underlying22 hf with ⟨hcs, _⟩ | ⟨ad, len', cap', m, n, D, Pl, hcs, _, hl, hm, hmm, _, hel⟩
  · simp [Value.cells] at hcs
    obtain ⟨rfl, rfl, rfl⟩ := hcs
    exact ⟨[], ⟨none, 0, rfl, fun h => absurd rfl h⟩, fun x h => by simp at h, by simp⟩
  · simp [Value.cells] at hcs
    obtain ⟨rfl, rfl, rfl⟩ := hcs
    have hlm : len ≤ m := by rw [hmm]; split <;> omega
    have each : ∀ i, i < len → ∃ x : VactL, (∃ u, W.cell? ((ad.add (i * 6)).add 0) = some (.int .i64 x.kind) ∧ W.cell? ((ad.add (i * 6)).add 1) = some (.int .i64 x.n) ∧ W.cell? ((ad.add (i * 6)).add 2) = some u ∧ W.cell? ((ad.add (i * 6)).add 3) = some (.int .u64 (x.keep : Int)) ∧ W.cell? ((ad.add (i * 6)).add 4) = some (.int .i64 x.torn) ∧ W.cell? ((ad.add (i * 6)).add 5) = some (.int .i64 x.bytes) ∧ Lies W u x.data) ∧ x.In := by
      intro i hi
      obtain ⟨cs', h1, h2⟩ := hel i (by omega)
      rw [cellsVact] at h1
      obtain ⟨_, hlen, hc⟩ := World.cells?_some h1
      obtain ⟨y0, y1, y2, y3, y4, y5, n', t0, t1, t2, t3, t4, t5⟩ := trod_struct6 Tryd.underlying35 h2
      simp only [cellsVI, cellsVU, cellsSl] at t0 t1 t2 t3 t4 t5
      match cs', hlen with
      | [u0, u1, u2, u3, u4, u5], _ =>
        obtain ⟨z0, e0, _, w0⟩ := DataW.trod_int Tryd.underlying3 t0
        obtain ⟨z1, e1, _, w1⟩ := DataW.trod_int Tryd.underlying3 t1
        obtain ⟨u, l, e2, h3, _, h5, _⟩ := open_cell t2
        obtain ⟨z3, e3, _, w3⟩ := DataW.trod_int Tryd.underlying33 t3
        obtain ⟨z4, e4, _, w4⟩ := DataW.trod_int Tryd.underlying3 t4
        obtain ⟨z5, e5, _, w5⟩ := DataW.trod_int Tryd.underlying3 t5
        simp at e0 e1 e2 e3 e4 e5
        subst e0 e1 e2 e3 e4 e5
        have b0 := bounds_i64 w0
        have b1 := bounds_i64 w1
        have b3 := bounds_u64 w3
        have hz : ((z3.toNat : Nat) : Int) = z3 := by omega
        refine ⟨⟨z0, z1, l, z3.toNat, z4, z5⟩, ⟨u2, hc 0 (by omega), hc 1 (by omega), hc 2 (by omega), ?_, hc 4 (by omega), hc 5 (by omega), h3⟩, b0.1, b0.2, b1.1, b1.2, by simp only; omega, h5⟩
        simp only [hz]
        exact hc 3 (by omega)
    haveI : Inhabited VactL := ⟨⟨0, 0, [], 0, 0, 0⟩⟩
    obtain ⟨T, hT⟩ := choose_lt each
    have hget : ∀ i t, ((List.range len).map T)[i]? = some t → i < len ∧ t = T i := by
      intro i t h
      by_cases hi : i < len
      · simp [hi] at h; exact ⟨hi, h.symm⟩
      · simp [hi] at h
    refine ⟨(List.range len).map T, ⟨some ad, cap, by simp, fun hne => ?_⟩, fun x hx => ?_, by simp; omega⟩
    · have h0 : 0 < len := by rcases Nat.eq_zero_or_pos len with h | h; subst h; simp at hne; exact h
      obtain ⟨b, off, spot⟩ := ad
      obtain ⟨⟨u, hc0, _⟩, _⟩ := hT 0 h0
      have hspot : spot = none := by simpa [Addr.add] using World.cell?_spot hc0
      subst hspot
      refine ⟨b, off, rfl, fun i x hx => ?_⟩
      obtain ⟨hi, rfl⟩ := hget i x hx
      obtain ⟨⟨u, k0, k1, k2, k3, k4, k5, k6⟩, _⟩ := hT i hi
      have hadd : ∀ j, ((⟨b, off, none⟩ : Addr).add (i * 6)).add j = ⟨b, off + i * 6 + j, none⟩ := fun j => by rw [add_plain, add_plain]
      rw [hadd] at k0 k1 k2 k3 k4 k5
      exact ⟨u, k0, k1, k2, k3, k4, k5, k6⟩
    · obtain ⟨i, hi, rfl⟩ := List.mem_map.1 hx
      exact (hT i (List.mem_range.1 hi)).2
end Go.Proofs.YtcdgbmeechnpiaaDoor
/- A crash is armed. -/
namespace Go.Proofs.YtcdgbmeechnpiaaDoor
open Go.RowKit

set_option maxRecDepth 1000000 in
set_option maxHeartbeats 4000000 in
theorem arm_any {w : World} {B P keep : Nat} {z torn bytes : Int} {d : Dev} (h : DevAt w B P d) : Calls Tryd.prog 12 #[.pointer (some ⟨P, 0, none⟩), .int .i64 z, .int .u64 (keep : Int), .int .i64 torn, .int .i64 bytes] w fun e w' => e = .returned (.tuple #[]) ∧
    DevAt w' B P (if z ≤ 0 then d.calm else { d with after := z.toNat, keep := keep, torn := torn, bytes := bytes }) ∧ Kept P w w' := by
  obtain ⟨g1, g2, wv, h⟩ := h
  have HD := Lib.hid h
  clear h
  by_cases hz : z ≤ 0
  · have t1 : decide (0 < z) = false := by simp; omega
    rw [if_pos hz]
    clear hz
    go_enter Tryd.func12, Tryd.ntmps12
    go_wp2_with (go_at_call 31; refine (disarm_any HD.out).mono ?_; rintro e w' ⟨rfl, hd, ho⟩; have HD2 := Lib.hid hd; have HO2 := Lib.hid ho; clear hd ho)
    go_end0
    exact ⟨rfl, ⟨g1, g2, wv, HD2.out⟩, HD.out.keeps (HO2.out.mono (fun _ _ h => .inl h)) HD2.out (fun _ h => .inl h)⟩
  · have t1 : decide (0 < z) = true := by simp; omega
    rw [if_neg hz]
    obtain ⟨n, hn⟩ : ∃ n : Nat, z = (n : Int) := ⟨z.toNat, by omega⟩
    subst hn
    have hp : 0 < n := by omega
    have hpd : decide (0 < n) = true := by simpa using hp
    clear hz
    go_enter Tryd.func12, Tryd.ntmps12
    repeat (first | (go_at_call 31; refine (disarm_any HD.out).mono ?_; rintro e w' ⟨rfl, hd, ho⟩; have HD2 := Lib.hid hd; have HO2 := Lib.hid ho; obtain ⟨_, _, _, _, c4, c5, c6, c7⟩ := hd.cells; have f4 := hd.free 4; have f5 := hd.free 5; have f6 := hd.free 6; have f7 := hd.free 7; clear hd ho; dsimp only) | go_values | go_skip | go_guarded | go_step | go_upon)
    go_wp2
    go_end0
    have HA := (((HD2.out.blk.set 4 (.int .i64 (n : Int))).set 5 (.int .u64 (keep : Int))).set 6 (.int .i64 torn)).set 7 (.int .i64 bytes)
    have HO := (((Only.setCell (S := fun k => k = P) w' (p := ⟨P, 4, none⟩) rfl (.int .i64 (n : Int))).trans (Only.setCell (S := fun k => k = P) _ (p := ⟨P, 5, none⟩) rfl (.int .u64 (keep : Int))) (fun _ _ h => h)).trans (Only.setCell (S := fun k => k = P) _ (p := ⟨P, 6, none⟩) rfl (.int .i64 torn)) (fun _ _ h => h)).trans (Only.setCell (S := fun k => k = P) _ (p := ⟨P, 7, none⟩) rfl (.int .i64 bytes)) (fun _ _ h => h)
    have HE := HD2.out.reblk (d' := { d with after := n, keep := keep, torn := torn, bytes := bytes }) HO HA rfl rfl
    exact ⟨rfl, ⟨g1, g2, wv, by simpa using HE⟩, HD.out.keeps ((HO2.out.trans HO (fun _ _ h => h)).mono (fun _ _ h => .inl h)) HE (fun _ h => .inl h)⟩
end Go.Proofs.YtcdgbmeechnpiaaDoor
