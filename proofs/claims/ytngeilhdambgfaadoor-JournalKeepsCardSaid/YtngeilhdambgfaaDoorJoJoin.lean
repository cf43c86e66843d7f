/- append(done[:n:n], behind...): two own rows joined in new memory. -/
import Derived.Test.YtngeilhdambgfaaDoorJoKept
namespace Go.Proofs.YtngeilhdambgfaaDoor
open Go.RowKit

/-- an operation that is wanted, by what its run gives -/
theorem wpList_runs_want {P : Program} {ops : Array Oper} {rest : List Oper} {o : Oper} {a : Act} {w w' : World} {Q : Exit → Act → World → Prop} {v : Value} (d : Option Tmp) (hd : o.dst = d) (hw : Region.wanted o (yielded ops a.tmps) = true) (hr : (execOp a.eval o).run P w = .ok (.value v) w')
    (h : wpList P ops Q rest (a.put d v) w') : wpList P ops Q (o :: rest) a w := by
  subst hd
  refine wpList_step fun K hK => ?_
  rw [if_pos hw]
  unfold Oper.wp
  rw [hr]
  exact hK _ _ h
theorem sizeRow : (Tryd.prog.info? 33).map (·.size) = some 1 := by kernel_rfl
theorem bounds_head {P : Program} (w : World) (n cap k : Nat) (hk : k ≤ cap) : (Instr.sliceBounds true n cap none (some (.int .i64 (k : Int))) (some (.int .i64 (k : Int)))).run P w = .ok (0, k, k) w := by
  simp [Instr.sliceBounds, Instr.sliceBound, asIntOf, hk]
/-- s[:n:n] -/
theorem run_headR (w : World) {o : Oper} {a : Act} (x h m : Operand) (ho : o.op = .slice 32 x none (some h) (some m)) (a0 : Option Addr) (n cap k : Nat) (hx : a.eval x = .slice a0 n cap) (hh : a.eval h = .int .i64 (k : Int)) (hm : a.eval m = .int .i64 (k : Int)) (hk : k ≤ cap) :
    (execOp a.eval o).run Tryd.prog w = .ok (.value (.slice a0 k k)) w := by
  have hr := run_mid3 (P := Tryd.prog) w 32 33 Tryd.underlying32 sizeRow a0 n cap 0 k k _ _ _ (bounds_head w n cap k hk)
  have e : midS a0 k 0 k = .slice a0 k k := by
    unfold midS
    have : (if k = 0 then a0 else a0.map (·.add 0)) = a0 := by
      split
      · rfl
      · cases a0 <;> simp [Addr.add]
    rw [this, Nat.sub_zero]
  rw [e] at hr
  unfold execOp
  simp only [ho, hx, hh, hm, Option.map_some, Option.map_none, Sem.run_bind, hr, Result.andThen_ok, Sem.run_pure]
/-- an append, by its run -/
theorem run_appendR {P : Program} {w w' : World} {o : Oper} {a : Act} (x y : Operand) (t : TypeId) (ho : o.op = .call { callee := .builtin .append, args := #[x, y], argTypes := #[t, t] }) {u v v' : Value} (hx : a.eval x = u) (hy : a.eval y = v) (hr : (Builtin.append_ #[t, t] o.type #[u, v]).run P w = .ok v' w') :
    (execOp a.eval o).run P w = .ok (.value v') w' := by
  unfold execOp
  simp only [ho, resolve, invoke, builtin, Sem.run_bind, Sem.run_pure, Result.andThen_ok, List.map_toArray, List.map_cons, List.map_nil, hx, hy, hr]
theorem rows_fresh {w : World} {B c' : Nat} {us : List Value} {R : List (List Nat)} (hB : B ≤ w.heap.size) (hlen : us.length = R.length) (hl : ∀ (i : Nat) (u : Value) (bs : List Nat), us[i]? = some u → R[i]? = some bs → Lies w u bs ∧ ∀ k, u.ownBlock = some k → bs ≠ [] → k < B) (hc : us.length ≤ c') (hcm : c' ≤ maxLen) (zs : Array Value) (hz : zs.size = c' - us.length) :
    RowsC B (w.drew.alloc (.cells (us.toArray ++ zs) 33)) (.slice (some ⟨w.heap.size, 0, none⟩) us.length c') us R ∧ Below w.heap.size w (w.drew.alloc (.cells (us.toArray ++ zs) 33)) := by
  have hb : Below w.heap.size w (w.drew.alloc (.cells (us.toArray ++ zs) 33)) := below_undrew (w := w) (B := w.drew.heap.size) ((Below.refl w.drew.heap.size w.drew).alloc (Nat.le_refl _) _)
  refine ⟨⟨⟨⟨by rw [Nat.mul_one], .inr ⟨w.heap.size, c', us.toArray ++ zs, rfl, hB, heap_alloc_new w.drew _, hc, hcm, by simp [hz]; omega, ?_⟩⟩, hlen, fun i u bs hu hbs => ?_⟩, fun i u bs k hu hbs hk hne => (hl i u bs hu hbs).2 k hk hne⟩, hb⟩
  · rw [Nat.mul_one, Array.toList_append, List.take_left' (by simp)]
  · obtain ⟨h1, h2⟩ := hl i u bs hu hbs
    refine ⟨lies_keep h1 hb, fun k hk hne e => ?_⟩
    cases e
    have h3 : w.heap.size < B := h2 _ hk hne
    omega
theorem done_join {w : World} {B m cd : Nat} {ad : Option Addr} {usd usb : List Value} {D Bh : List (List Nat)} {vb : Value} (hd : RowsC B w (.slice ad m cd) usd D) (hb : RowsC B w vb usb Bh) (hB : B ≤ w.heap.size) (hm : m = D.length) (hne : Bh ≠ []) (hsz : D.length + Bh.length ≤ 1000) (ty : TypeId) :
    ∃ g' c' w', (Builtin.append_ #[32, 32] ty #[.slice (if D = [] then none else ad) m m, vb]).run Tryd.prog w = .ok (.slice (some ⟨g', 0, none⟩) (m + Bh.length) c') w' ∧ RowsC B w' (.slice (some ⟨g', 0, none⟩) (m + Bh.length) c') (usd ++ usb) (D ++ Bh) ∧ Below w.heap.size w w' := by
  obtain ⟨i, hi1, hi2, hi3, hi4⟩ := info_parts infoR
  have hlb := hb.rows.len
  have hld := hd.rows.len
  have hbp : 0 < Bh.length := List.length_pos_iff.2 hne
  have hl : ∀ (i : Nat) (u : Value) (bs : List Nat), (usd ++ usb)[i]? = some u → (D ++ Bh)[i]? = some bs → Lies w u bs ∧ ∀ k, u.ownBlock = some k → bs ≠ [] → k < B := fun i u bs hu hbs => by
    by_cases h : i < usd.length
    · rw [List.getElem?_append_left h] at hu
      rw [List.getElem?_append_left (by omega)] at hbs
      exact ⟨(hd.rows.data i u bs hu hbs).1, fun k hk hn => hd.far i u bs k hu hbs hk hn⟩
    · rw [List.getElem?_append_right (by omega)] at hu
      rw [List.getElem?_append_right (by omega), ← hld] at hbs
      exact ⟨(hb.rows.data _ u bs hu hbs).1, fun k hk hn => hb.far _ u bs k hu hbs hk hn⟩
  have hlen : (usd ++ usb).length = (D ++ Bh).length := by rw [List.length_append, List.length_append, hld, hlb]
  have hul : (usd ++ usb).length = m + Bh.length := by rw [List.length_append, hld, hlb, hm]
  obtain ⟨gb, cb, hvb, hcb⟩ : ∃ gb cb, vb = .slice (some ⟨gb, 0, none⟩) Bh.length cb ∧ ∀ j u, usb[j]? = some u → w.cell? ((⟨gb, 0, none⟩ : Addr).add j) = some u := by
    rcases hb.rows.row.2 with ⟨_, h0⟩ | ⟨g, cap, cur, hv, _, hg, _⟩
    · omega
    · have hrow := hb.rows.row
      rw [hv] at hrow
      exact ⟨g, cap, by rw [hv, hlb], fun j u hj => by rw [add_at, Nat.zero_add, hrow.cellAt j (by have := (List.getElem?_eq_some_iff.1 hj).1; omega), hj]⟩
  subst hvb
  by_cases hD : D = []
  · subst hD
    have hu0 : usd = [] := List.length_eq_zero_iff.1 (by rw [hld]; rfl)
    subst hu0
    have hm0 : m = 0 := hm
    subst hm0
    have hr := run_append_nil (P := Tryd.prog) w 32 ty 33 i _ Tryd.underlying32 hi1 hi2 ⟨gb, 0, none⟩ Bh.length cb usb (by rw [hi3, hlb, Nat.mul_one]) hcb hbp (by omega) (by rw [hi4]; omega)
    obtain ⟨h1, h2⟩ := rows_fresh (c' := grownCap w Bh.length 0 33) hB hlen hl (by rw [hul, Nat.zero_add]; exact grownCap_ge _ _ _ _) (grownCap_le_maxLen _ _ _ _ (by unfold maxLen; omega)) (Builtin.zeroCells (Value.slice none 0 0).cells (grownCap w Bh.length 0 33 - Bh.length)) (by rw [size_zeroCells, hul, Nat.zero_add]; simp [Value.cells])
    rw [hul] at h1
    rw [Nat.zero_add] at h1 ⊢
    rw [if_pos rfl]
    exact ⟨_, _, _, hr, h1, h2⟩
  · rw [if_neg hD]
    have hDp : 0 < D.length := List.length_pos_iff.2 hD
    obtain ⟨g, had, hcd⟩ : ∃ g, ad = some ⟨g, 0, none⟩ ∧ ∀ j u, usd[j]? = some u → w.cell? ((⟨g, 0, none⟩ : Addr).add j) = some u := by
      rcases hd.rows.row.2 with ⟨_, h0⟩ | ⟨g, cap, cur, hv, _, hg, _⟩
      · omega
      · have hrow := hd.rows.row
        rw [hv] at hrow
        cases hv
        exact ⟨g, rfl, fun j u hj => by rw [add_at, Nat.zero_add, hrow.cellAt j (by have := (List.getElem?_eq_some_iff.1 hj).1; omega), hj]⟩
    subst had
    have hr := run_append_grow (P := Tryd.prog) (w := w) 32 ty 33 i _ Tryd.underlying32 hi1 hi2 ⟨g, 0, none⟩ m m usd (by rw [hi3, hld, hm, Nat.mul_one]) hcd ⟨gb, 0, none⟩ Bh.length cb usb (by rw [hi3, hlb, Nat.mul_one]) hcb (by omega) (by omega) (growslice_fits (by omega) (by rw [hi4]; omega))
    obtain ⟨h1, h2⟩ := rows_fresh (c' := grownCap w (m + Bh.length) m 33) hB hlen hl (by rw [hul]; exact grownCap_ge _ _ _ _) (grownCap_le_maxLen _ _ _ _ (by unfold maxLen; omega)) (Builtin.zeroCells (Value.slice none 0 0).cells (grownCap w (m + Bh.length) m 33 - (m + Bh.length))) (by rw [size_zeroCells, hul]; simp [Value.cells])
    rw [hul, ← List.append_toArray] at h1
    rw [← List.append_toArray] at h2
    exact ⟨_, _, _, hr, h1, h2⟩
theorem done_self {w : World} {B m cd : Nat} {ad : Option Addr} {usd : List Value} {D : List (List Nat)} (hd : RowsC B w (.slice ad m cd) usd D) (hm : m = D.length) (ty : TypeId) :
    (Builtin.append_ #[32, 32] ty #[.slice (if D = [] then none else ad) m m, .slice none 0 0]).run Tryd.prog w = .ok (.slice (if D = [] then none else ad) m m) w := by
  obtain ⟨i, hi1, hi2, hi3, hi4⟩ := info_parts infoR
  by_cases hD : D = []
  · subst hD
    have hm0 : m = 0 := hm
    subst hm0
    rw [if_pos rfl]
    simp [Builtin.append_, run_underlying Tryd.underlying32, sizeOf, typeInfo, hi1, Builtin.lenOf, Builtin.firstCells]
  · rw [if_neg hD]
    have hDp : 0 < D.length := List.length_pos_iff.2 hD
    obtain ⟨g, had⟩ : ∃ g, ad = some ⟨g, 0, none⟩ := by
      rcases hd.rows.row.2 with ⟨_, h0⟩ | ⟨g, cap, cur, hv, _, hg, _⟩
      · have := hd.rows.len; omega
      · cases hv; exact ⟨g, rfl⟩
    subst had
    simp [Builtin.append_, run_underlying Tryd.underlying32, sizeOf, typeInfo, hi1, Builtin.lenOf, Builtin.firstCells, storeCells]
end Go.Proofs.YtngeilhdambgfaaDoor
