/- The sectors of a turn, each at its place, up to the first that isn't one: a range over slices.Chunk. -/
import Derived.Test.YtngeilhdambgfaaDoorJoChunk
import Derived.Test.YtngeilhdambgfaaDoorJoI
import Derived.Test.YtngeilhdambgfaaDoorStUnp
import Derived.Test.YtngeilhdambgfaaDoorStSplit
import Derived.Maps.OwnIn
namespace Go.Proofs.YtngeilhdambgfaaDoor
open Go.RowKit Go.Shelf

attribute [local go_sem] Oper.semAt_some

/-- of sectors: those of the turn, each at its place -/
def placedL (t : Nat) : Nat → List (List Nat) → List Sec
  | _, [] => []
  | k, b :: L => if accB t k b = true then stOf b :: placedL t (k + 1) L else []
theorem placedL_take (t : Nat) (L : List (List Nat)) : ∀ s k, k ≤ L.length → (∀ j, j < k → accB t (s + j) (L.getD j []) = true) → (k = L.length ∨ accB t (s + k) (L.getD k []) = false) → placedL t s L = (L.take k).map stOf := by
  induction L with
  | nil => intro s k _ _ _; simp [placedL]
  | cons b L ih =>
    intro s k hk hj he
    unfold placedL
    cases k with
    | zero =>
      rcases he with he | he
      · simp at he
      · have he : accB t s b = false := he
        rw [if_neg (by rw [he]; decide)]; rfl
    | succ k =>
      have h0 : accB t s b = true := hj 0 (by omega)
      rw [if_pos h0, ih (s + 1) k (by simp at hk; omega) (fun j hjk => by have := hj (j + 1) (by omega); rwa [show s + 1 + j = s + (j + 1) by omega]) (by
        rcases he with he | he
        · exact .inl (by simpa using he)
        · exact .inr (by rw [show s + 1 + k = s + (k + 1) by omega]; exact he))]
      rfl
/-- what is told in a round -/
def secAt (L : List (List Nat)) {N : Nat} (i : Fin N) : List Nat := L.getD i.val []
theorem upto_secs (L : List (List Nat)) {N k : Nat} (hN : L.length = N) (hk : k ≤ N) : (uptoF N k).map (fun i => stOf (secAt L i)) = (L.take k).map stOf := by
  unfold uptoF secAt
  refine List.ext_getElem (by simp [hN]) fun i h1 h2 => ?_
  have hi : i < L.length := by simp at h2; omega
  simp [List.getD, hi]
theorem upto_acc {t : Nat} (L : List (List Nat)) {N k : Nat} (hk : k ≤ N) (h : ∀ j x, (uptoF N k)[j]? = some x → accB t j (secAt L x) = true) : ∀ j, j < k → accB t (0 + j) (L.getD j []) = true := fun j hj => by
  have h1 : (uptoF N k)[j]? = some ⟨j, by omega⟩ := by
    unfold uptoF
    rw [List.getElem?_take_of_lt hj, List.getElem?_eq_getElem (by simp; omega)]
    simp
  rw [Nat.zero_add]
  exact h j _ h1
theorem LiesFrom.only2 {B : Nat} {w w' : World} {v : Value} {bs : List Nat} {S : Nat → Prop} (h : LiesFrom B w v bs) (ho : Only S w w') (hS : ∀ k, B ≤ k → v.ownBlock = some k → bs ≠ [] → ¬ S k) : LiesFrom B w' v bs := by
  rcases h with h | h | ⟨b, off, cap, h, hl, hB, hc, hb⟩
  · exact .inl h
  · exact .inr (.inl h)
  · refine .inr (.inr ⟨b, off, cap, h, hl, hB, fun j hj => ?_, hb⟩)
    have h1 := hc j hj
    rw [← h1]
    exact World.cell?_of_block (w := w) (ho.block b (by have := cell_lt h1; exact this) (hS b hB (by rw [h]; rfl) hb))
theorem LiesFrom.block {B k : Nat} {w : World} {v : Value} {bs : List Nat} (h : LiesFrom B w v bs) (hk : v.ownBlock = some k) (hb : bs ≠ []) : B ≤ k ∧ k < w.heap.size := by
  rcases h with h | ⟨_, _, _, h⟩ | ⟨b, off, cap, h, hl, hB, hc, _⟩
  · exact absurd h.2 hb
  · exact absurd h hb
  · rw [h] at hk
    cases hk
    exact ⟨hB, by have := hc 0 (List.length_pos_iff.2 hb); exact cell_lt this⟩
/-- a sector's data, apart from the row of the sectors -/
def DataAt (B : Nat) (own : Option Nat) (W : World) (u : Value) (D : List Nat) : Prop := LiesFrom B W u D ∧ ∀ k, u.ownBlock = some k → D ≠ [] → own ≠ some k
/-- between two rounds -/
structure PlacedI (t : Nat) (L : List (List Nat)) {N : Nat} (W0 : World) (B5 : Nat) (pre : List (Fin N)) (v : Value) (r : List (Sec × Value)) (W : World) : Prop where
  box : Arr W B5 69 [v]
  row : W.ownsRow W0.heap.size 77 4 v pre.length (rowC r)
  secs : r.map Prod.fst = pre.map (fun i => stOf (secAt L i))
  acc : ∀ j x, pre[j]? = some x → accB t j (secAt L x) = true
  data : ∀ x ∈ r, DataAt W0.heap.size v.ownBlock W x.2 x.1.data
  only : Only (fun k => k = B5) W0 W
theorem grown_others {W : World} {row : Option Nat} {B5 : Nat} (hr : ∀ r, row = some r → B5 ≤ r ∧ ∃ o : Obj, W.heap[r]? = some o ∧ o.isCells = false) {a : Addr} {u : Value} (hc : W.cell? a = some u) : ¬ row = some a.block := fun e => by
  obtain ⟨_, o, ho, hcc⟩ := hr _ e
  obtain ⟨o2, ho2, hc2⟩ := cells_of_cell hc
  rw [ho] at ho2
  cases ho2
  rw [hcc] at hc2; cases hc2
theorem PlacedI.grown {t : Nat} {L : List (List Nat)} {N : Nat} {W0 W W' : World} {B5 : Nat} {pre : List (Fin N)} {v : Value} {r : List (Sec × Value)} {row : Option Nat} (h : PlacedI t L W0 B5 pre v r W) (hg : W.grownBy W' row) (hr : ∀ q, row = some q → W0.heap.size ≤ q ∧ ∃ o : Obj, W.heap[q]? = some o ∧ o.isCells = false) : PlacedI t L W0 B5 pre v r W' := by
  have ho := Only.grown hg
  refine ⟨h.box.only ho (grown_others hr (h.box.cell (i := 0) rfl)), row_only h.row ho (fun k hk e => ?_), h.secs, h.acc, fun x hx => ⟨(h.data x hx).1.only ho (fun b off j z _ hc => grown_others hr hc), (h.data x hx).2⟩, h.only.trans ho (fun i hi e => by have := (hr i e).1; omega)⟩
  rcases h.row.2 with ⟨hv, _⟩ | ⟨g, cap, cur, hv, hgb, hgg, _⟩
  · rw [hv] at hk; cases hk
  · rw [hv] at hk
    cases hk
    obtain ⟨_, o, ho, hcc⟩ := hr g e
    rw [hgg] at ho
    cases ho
    cases hcc
theorem others_below {W W' : World} (h : Below W.heap.size W W') : KeepsOthers W W' := ⟨h.size, fun k _ hk _ => (h.block k (Array.getElem?_eq_some_iff.1 hk).1).trans hk⟩
theorem PlacedI.step {t m : Nat} {L : List (List Nat)} {N B5 : Nat} {W0 W w3 w5 w6 : World} {pre : List (Fin N)} {av : Option Addr} {cv g' cap' : Nat} {r : List (Sec × Value)} {x : Fin N} {s : Sec} {u : Value} (h : PlacedI t L W0 B5 pre (.slice av m cv) r W) (hB5 : B5 < W0.heap.size) (h3 : Below W.heap.size W w3) (h5 : Below w3.heap.size w3 w5)
    (hu : LiesFrom W.heap.size w3 u s.data) (hs : s = stOf (secAt L x)) (ha : accB t pre.length (secAt L x) = true) (hm : m = pre.length) (hg : w5.grownBy w6 (Value.slice av m cv).ownBlock) (hown : w6.ownsRow W0.heap.size 77 4 (.slice (some ⟨g', 0, none⟩) (m + 1) cap') (m + 1) (rowC r ++ secC (s, u)))
    (hat : (Value.slice (some ⟨g', 0, none⟩) (m + 1) cap').ownBlock = (Value.slice av m cv).ownBlock ∨ (Value.slice (some ⟨g', 0, none⟩) (m + 1) cap').ownBlock = some w5.heap.size) :
    KeepsOthers W (w6.setCell ⟨B5, 0, none⟩ (.slice (some ⟨g', 0, none⟩) (m + 1) cap')) ∧ PlacedI t L W0 B5 (pre ++ [x]) (.slice (some ⟨g', 0, none⟩) (m + 1) cap') (r ++ [(s, u)]) (w6.setCell ⟨B5, 0, none⟩ (.slice (some ⟨g', 0, none⟩) (m + 1) cap')) := by
  have hb5 : Below W.heap.size W w5 := h3.trans (h5.mono h3.size)
  have ho5 : Only (fun _ => False) W w5 := only_beyond hb5
  have ho6 := Only.grown hg
  have hlt : ∀ k, (Value.slice av m cv).ownBlock = some k → W0.heap.size ≤ k ∧ k < W.heap.size := fun k hk => h.row.lt k hk
  have hg' : W0.heap.size ≤ g' := (hown.lt g' rfl).1
  have hW : W0.heap.size ≤ W.heap.size := h.only.size
  have ho7 : Only (fun k => k = B5) w6 (w6.setCell ⟨B5, 0, none⟩ (.slice (some ⟨g', 0, none⟩) (m + 1) cap')) := Only.setCell (S := fun k => k = B5) _ (p := ⟨B5, 0, none⟩) rfl _
  have hbox : Arr w6 B5 69 [.slice av m cv] := (h.box.only ho5 (fun e => e)).only ho6 (fun e => by have := (hlt _ e).1; omega)
  have hrl : r.length = m := by have := congrArg List.length h.secs; rw [List.length_map, List.length_map] at this; omega
  refine ⟨((others_below hb5).trans (KeepsOthers.of_grownBy hg (fun j o hj ho => ?_))).trans (KeepsOthers.setCell _ _ _), Arr.set hbox 0 _, ?_, by rw [List.map_append, List.map_append, h.secs, hs]; rfl, fun j y hy => ?_, fun y hy => ?_, ((h.only.trans ho5 (fun _ _ hf => hf.elim)).trans ho6 (fun i hi e => by have := (hlt i e).1; omega)).trans ho7 (fun _ _ e => e)⟩
  · rcases h.row.2 with ⟨hv, _⟩ | ⟨g, cap, cur, hv, hgb, hgg, _⟩
    · rw [hv] at hj; cases hj
    · rw [hv] at hj
      cases hj
      rw [(ho5.block g (lt_of_block hgg) (fun e => e)).trans hgg] at ho
      cases ho; rfl
  · rw [List.length_append, List.length_singleton, ← hm, rowC_append]
    refine row_only (xs := rowC r ++ rowC [(s, u)]) ?_ ho7 (fun k hk e => by cases hk; have e : g' = B5 := e; omega)
    have e : rowC [(s, u)] = secC (s, u) := by simp [rowC]
    rw [e]; exact hown
  · by_cases hj : j < pre.length
    · rw [List.getElem?_append_left hj] at hy; exact h.acc j y hy
    · have hj2 : j = pre.length := by have := (List.getElem?_eq_some_iff.1 hy).1; simp at this; omega
      subst hj2
      rw [List.getElem?_append_right (Nat.le_refl _), Nat.sub_self] at hy
      cases hy
      exact ha
  · rcases List.mem_append.1 hy with hy | hy
    · obtain ⟨h1, h2⟩ := h.data y hy
      refine ⟨((h1.only2 ho5 (fun _ _ _ _ e => e)).only2 ho6 (fun k _ hk hne e => h2 k hk hne e)).only2 ho7 (fun k hB _ _ e => by omega), fun k hk hne e => ?_⟩
      rcases hat with ha1 | ha1
      · rw [ha1] at e; exact h2 k hk hne e
      · rw [ha1] at e
        cases e
        have := (h1.block hk hne).2
        have := hb5.size
        omega
    · rw [List.mem_singleton.1 hy]
      have h1 : LiesFrom W.heap.size w5 u s.data := hu.only2 (only_beyond (S := fun _ => False) h5) (fun _ _ _ _ e => e)
      refine ⟨((LiesFrom.only2 h1 ho6 (fun k hB _ _ e => by have := (hlt k e).2; omega)).only2 ho7 (fun k hB _ _ e => by omega)).mono hW, fun k hk hne e => ?_⟩
      have hkb := hu.block hk hne
      have h5s := h5.size
      rcases hat with ha1 | ha1
      · rw [ha1] at e; have := (hlt k e).2; omega
      · rw [ha1] at e
        cases e
        omega
theorem PlacedI.on {t : Nat} {L : List (List Nat)} {N B5 : Nat} {W0 W W' : World} {pre : List (Fin N)} {v : Value} {r : List (Sec × Value)} (h : PlacedI t L W0 B5 pre v r W) (hb : Below W.heap.size W W') : PlacedI t L W0 B5 pre v r W' := by
  have ho : Only (fun _ => False) W W' := only_beyond hb
  exact ⟨h.box.only ho (fun e => e), row_only h.row ho (fun _ _ e => e), h.secs, h.acc, fun x hx => ⟨(h.data x hx).1.only2 ho (fun _ _ _ _ e => e), (h.data x hx).2⟩, h.only.trans ho (fun _ _ e => e.elim)⟩
theorem box_grown {t m : Nat} {L : List (List Nat)} {N B5 : Nat} {W0 W w5 w6 : World} {pre : List (Fin N)} {av : Option Addr} {cv : Nat} {r : List (Sec × Value)} (h : PlacedI t L W0 B5 pre (.slice av m cv) r W) (h5 : Below W.heap.size W w5) (hB5 : B5 < W0.heap.size) (hg : w5.grownBy w6 (Value.slice av m cv).ownBlock) : Arr w6 B5 69 [.slice av m cv] :=
  (h.box.only (only_beyond (S := fun _ => False) h5) (fun e => e)).only (Only.grown hg) (fun e => by have := (h.row.lt _ e).1; omega)
theorem placed_end {t : Nat} {L : List (List Nat)} {N B5 k : Nat} {W0 W : World} {v : Value} {r : List (Sec × Value)} (h : PlacedI t L W0 B5 (uptoF N k) v r W) (hN : L.length = N) (hk : k ≤ N) (he : k = N ∨ accB t k (L.getD k []) = false) : r.map Prod.fst = placedL t 0 L := by
  rw [h.secs, upto_secs L hN hk, placedL_take t L 0 k (by omega) (upto_acc L hk h.acc)]
  rcases he with he | he
  · exact .inl (by omega)
  · exact .inr (by rw [Nat.zero_add]; exact he)
/-- what is told in the end -/
theorem placed_told {t : Nat} {L : List (List Nat)} {N B5 D : Nat} {w W0 W : World} {pre : List (Fin N)} {v : Value} {r : List (Sec × Value)} {o : Obj} (h : PlacedI t L W0 B5 pre v r W) (hw : Below w.heap.size w W0) (hB5 : w.heap.size ≤ B5) (hD : W0.heap.size ≤ D) (hK : W.heap[D]? = some o) (hc : o.isCells = false) (o' : Obj) :
    (W.putObj D o').ownsRow w.heap.size 77 4 v r.length (rowC r) ∧ (∀ x ∈ r, LiesFrom w.heap.size (W.putObj D o') x.2 x.1.data) ∧ Below w.heap.size w (W.putObj D o') := by
  have h' := h.grown (grownBy_putObj' W D o') (fun q e => by cases e; exact ⟨hD, o, hK, hc⟩)
  have hrl : r.length = pre.length := by have := congrArg List.length h.secs; rwa [List.length_map, List.length_map] at this
  refine ⟨by rw [hrl]; exact ⟨h'.row.1, h'.row.2.elim .inl (fun ⟨g, cap, cur, a, b, c⟩ => .inr ⟨g, cap, cur, a, Nat.le_trans hw.size b, c⟩)⟩, fun x hx => (h'.data x hx).1.mono hw.size, hw.trans (h'.only.below hw.size (fun k e => by omega))⟩
theorem wpListIn_runs {F : Fence} {n : Nat} {P : Program} {ops : Array Oper} {rest : List Oper} {o : Oper} {a : Act} {w w' : World} {v : Value} {Q : Exit → Act → World → Prop} (d : Option Tmp) (hgd : o.guard = none) (hd : o.dst = d) (hdf : ∀ c, o.op ≠ .defer c) (hab : o.about P w a.eval = none)
    (hr : (execOp a.eval o).run P w = .ok (.value v) w') (h : wpListIn F n P ops Q rest (a.put d v) w') : wpListIn F n P ops Q (o :: rest) a w := by
  subst hd
  refine wpListIn_plain hgd fun K hK => ?_
  unfold Oper.wpIn
  refine ⟨fun f hf => (by rw [hab] at hf; cases hf), ?_⟩
  rw [Oper.semAt_plain F _ _ hdf, hr]
  exact hK _ _ h

theorem four_new (w : World) (o1 o2 o3 o4 : Obj) : ((((w.alloc o1).alloc o2).alloc o3).alloc o4).heap[w.heap.size]? = some o1 ∧ ((((w.alloc o1).alloc o2).alloc o3).alloc o4).heap[w.heap.size + 1]? = some o2 ∧ ((((w.alloc o1).alloc o2).alloc o3).alloc o4).heap[w.heap.size + 1 + 1]? = some o3 ∧
    ((((w.alloc o1).alloc o2).alloc o3).alloc o4).heap[w.heap.size + 1 + 1 + 1]? = some o4 ∧ ((((w.alloc o1).alloc o2).alloc o3).alloc o4).heap.size = w.heap.size + 4 ∧ Below w.heap.size w ((((w.alloc o1).alloc o2).alloc o3).alloc o4) := by
  have h1 := World.alloc_heap_new w o1
  have h2 := World.alloc_heap_new (w.alloc o1) o2
  have h3 := World.alloc_heap_new ((w.alloc o1).alloc o2) o3
  have h4 := World.alloc_heap_new (((w.alloc o1).alloc o2).alloc o3) o4
  simp only [World.size_alloc] at h2 h3 h4
  refine ⟨?_, ?_, ?_, h4, by simp only [World.size_alloc], ((((Below.refl _ w).alloc (Nat.le_refl _) _).alloc (by simp only [World.size_alloc]; omega) _).alloc (by simp only [World.size_alloc]; omega) _).alloc (by simp only [World.size_alloc]; omega) _⟩
  · rw [Below.heap_alloc _ _ _ (by simp only [World.size_alloc]; omega), Below.heap_alloc _ _ _ (by simp only [World.size_alloc]; omega), Below.heap_alloc _ _ _ (by simp only [World.size_alloc]; omega)]; exact h1
  · rw [Below.heap_alloc _ _ _ (by simp only [World.size_alloc]; omega), Below.heap_alloc _ _ _ (by simp only [World.size_alloc]; omega)]; exact h2
  · rw [Below.heap_alloc _ _ _ (by simp only [World.size_alloc]; omega)]; exact h3
theorem keepC_only {Bs Bn B5 : Nat} {W0 W W' : World} (h : Only (fun k => k = B5) W0 W) (h' : Only (fun k => k = B5) W0 W') (h1 : Bs < W0.heap.size) (h2 : Bn < W0.heap.size) (e1 : Bs ≠ B5) (e2 : Bn ≠ B5) : KeepC Bs Bn W W' :=
  ⟨(h'.block Bs h1 e1).trans (h.block Bs h1 e1).symm, (h'.block Bn h2 e2).trans (h.block Bn h2 e2).symm⟩

theorem two_new (w : World) {a : Addr} {u : Value} (h : w.cell? a = some u) : (∀ o, (w.alloc o).cell? a = some u) ∧ ∀ o o', ((w.alloc o).alloc o').cell? a = some u := by
  have h1 : ∀ o, (w.alloc o).cell? a = some u := fun o => by rw [World.cell?_of_block (w := w) (Below.heap_alloc _ _ _ (cell_lt h))]; exact h
  exact ⟨h1, fun o o' => by rw [World.cell?_of_block (w := w.alloc o) (Below.heap_alloc _ _ _ (cell_lt (h1 o)))]; exact h1 o⟩
theorem three_new (w : World) (o1 o2 : Obj) (l : List Value) (t : TypeId) : ∀ j u, l[j]? = some u → (((w.alloc o1).alloc o2).alloc (.cells l.toArray t)).cell? ((⟨w.heap.size + 1 + 1, 0, none⟩ : Addr).add j) = some u := fun j u hu => by
  have h := arr_new ((w.alloc o1).alloc o2) t l
  rw [World.size_alloc, World.size_alloc] at h
  rw [add_at, Nat.zero_add]
  exact h.cell hu
theorem two_cells (w : World) (x y z u p q : Value) (t s : TypeId) : (∀ i v, #[x, y, z, u][i]? = some v → ((w.alloc (.cells #[x, y, z, u] t)).alloc (.cells #[p, q] s)).cell? ⟨w.heap.size, i, none⟩ = some v) ∧ (∀ i v, #[p, q][i]? = some v → ((w.alloc (.cells #[x, y, z, u] t)).alloc (.cells #[p, q] s)).cell? ⟨w.heap.size + 1, i, none⟩ = some v) := by
  have h1 : Arr (w.alloc (.cells #[x, y, z, u] t)) w.heap.size t [x, y, z, u] := arr_new w t _
  have h2 : Arr ((w.alloc (.cells #[x, y, z, u] t)).alloc (.cells #[p, q] s)) (w.heap.size + 1) s [p, q] := by
    have := arr_new (w.alloc (.cells #[x, y, z, u] t)) s [p, q]
    rwa [World.size_alloc] at this
  exact ⟨fun i v hv => (h1.alloc _).cell (by simpa using hv), fun i v hv => h2.cell (by simpa using hv)⟩

set_option maxRecDepth 1000000 in
set_option maxHeartbeats 8000000 in
theorem placed_any {w : World} {b off c N t : Nat} {L : List (List Nat)} (hL : Sect L) (hNl : L.length = N) (hN : N ≤ 8192) (hs : ∀ s ∈ L, ∀ x ∈ s, x < 256) (hat : BytesAt w b off L.flatten) (hbw : b < w.heap.size) (hc : N * 64 ≤ c) :
    Calls Tryd.prog 30 #[.slice (some ⟨b, off, none⟩) (N * 64 : Nat) c, .int .u32 (t : Int)] w fun e w' => ∃ v r, e = .returned v ∧ w'.ownsRow w.heap.size 77 4 v r.length (rowC r) ∧ r.map Prod.fst = placedL t 0 L ∧ (∀ x ∈ r, LiesFrom w.heap.size w' x.2 x.1.data) ∧ Below w.heap.size w w' := by
  obtain ⟨M, hM⟩ : ∃ M, M = N * 64 := ⟨_, rfl⟩
  have HM := Lib.hid hM
  rw [← hM]
  refine (callsIn_wide (n := 6)).1 ?_
  refine callsIn_of_wp_marks Tryd.func30 rfl trivial ?_ rfl
  simp only [Tryd.ntmps30, List.size_toArray, List.length_cons, List.length_nil, Nat.reduceAdd, Nat.reduceSub, Array.replicate_succ, Array.replicate_zero, List.push_toArray, List.append_toArray, List.nil_append, List.cons_append]
  clear hM
  gi_wp2_with (first | (refine ⟨trivial, ?_⟩; gi_at_call 39; refine (callsIn_wide.2 (chunk_any _ _ _ _)).mono ?_; rintro e w2 ⟨rfl, hw2⟩))
  obtain ⟨B3, hB3⟩ : ∃ B, B = w.heap.size := ⟨_, rfl⟩
  obtain ⟨B5, hB5⟩ : ∃ B, B = w.heap.size + 1 := ⟨_, rfl⟩
  obtain ⟨Bs, hBs⟩ : ∃ B, B = w.heap.size + 1 + 1 := ⟨_, rfl⟩
  obtain ⟨Bn, hBn⟩ : ∃ B, B = w.heap.size + 1 + 1 + 1 := ⟨_, rfl⟩
  obtain ⟨k3, k5, ks, kn, hsz, hbl⟩ := four_new w (.cells #[.int .u32 (t : Int)] 28) (.cells #[.slice none 0 0] 69) (.cells #[.slice (some ⟨b, off, none⟩) M c] 33) (.cells #[.int .i64 64] 3)
  rw [← hBn, ← hBs, ← hB5, ← hB3]
  rw [← hw2]
  rw [← hw2, ← hB3] at k3
  rw [← hw2, ← hB5] at k5
  rw [← hw2, ← hBs] at ks
  rw [← hw2, ← hBn] at kn
  rw [← hw2] at hsz hbl
  have HK3 : Hid (Arr w2 B3 28 [.int .u32 (t : Int)]) := Lib.hid k3
  have HK5 : Hid (Arr w2 B5 69 [.slice none 0 0]) := Lib.hid k5
  have HKs : Hid (Arr w2 Bs 33 [.slice (some ⟨b, off, none⟩) M c]) := Lib.hid ks
  have HKn : Hid (Arr w2 Bn 3 [.int .i64 64]) := Lib.hid kn
  have HBL := Lib.hid hbl
  have HBB : Hid (B3 = w.heap.size ∧ B5 = w.heap.size + 1 ∧ Bs = w.heap.size + 2 ∧ Bn = w.heap.size + 3 ∧ w2.heap.size = w.heap.size + 4) := Lib.hid ⟨hB3, hB5, hBs, hBn, hsz⟩
  have HAT := Lib.hid hat
  have HS := Lib.hid hs
  clear hw2 hB3 hB5 hBs hBn k3 k5 ks kn hbl hsz hat hs
  refine wpIn_rangeFunc_ownF (α := Fin N) rfl (by omega) (gf := 50) (lb := #[.pointer (some ⟨Bs, 0, none⟩), .pointer (some ⟨Bn, 0, none⟩)]) rfl trivial (enters_of Tryd.func50 (by kernel_rfl) rfl)
    (chunk_stops 5 Bs Bn b off N c w2 (by omega) (by have := HBB.out; omega) (by have := HBB.out; omega) hN (by omega) (by rw [← HM.out]; exact HKs.out.cell rfl) (HKn.out.cell rfl)) (fun h k => h.trans k) (fun W l o o' hl _ _ _ => KeepC.put W l o' (by have := HBB.out; omega) (by have := HBB.out; omega)) (Below.refl _ _) (fun _ => rfl)
    (fun pre W => ∃ v r, PlacedI t L w2 B5 pre v r W)
    (fun cd pre W => cd = .exit 0 ∧ ∃ pre' x v r, pre = pre' ++ [x] ∧ accB t pre'.length (secAt L x) = false ∧ PlacedI t L w2 B5 pre' v r W)
    (fun pre W W' row ⟨v, r, h⟩ hg hr => ⟨v, r, h.grown hg hr⟩)
    (fun cd pre W W' row ⟨e, pre', x, v, r, e1, e2, h⟩ hg hr => ⟨e, pre', x, v, r, e1, e2, h.grown hg hr⟩)
    ⟨_, [], HK5.out, World.ownsRow_nil _ _ _ _, rfl, fun j x h => by simp at h, fun x h => by simp at h, Only.refl _ _⟩
    (fun x => { tmps := #[.slice (some ⟨b, off, none⟩) M c, .int .u32 (t : Int), undef, .pointer (some ⟨B3, 0, none⟩), .slice none 0 0, .pointer (some ⟨B5, 0, none⟩), pieceC b off x, undef, undef, undef, .slice (some ⟨b, off, none⟩) M c, .func (.func 50) #[] #[.pointer (some ⟨Bs, 0, none⟩), .pointer (some ⟨Bn, 0, none⟩)], pieceC b off x, undef, undef, undef, undef, undef, undef, undef, undef, undef, undef, undef, undef, undef, undef, undef, undef, undef, undef, undef, undef, undef, undef, undef], defers := [] }) ?assign ?body ?done ?stop
  case assign =>
    intro l x W K hK
    gi_wp2
    exact hK
  case body =>
    rintro l pre x W ⟨v, r, hI⟩ hlt
    obtain ⟨sb, hsb⟩ : ∃ s, s = secAt L x := ⟨_, rfl⟩
    have hxL : x.val < L.length := by rw [hNl]; exact x.isLt
    have hget : L[x.val]? = some sb := by rw [hsb]; unfold secAt; simp [List.getD, hxL]
    have hsl : sb.length = 64 := hL.get hget
    have hsm : ∀ y ∈ sb, y < 256 := HS.out sb (List.mem_of_getElem? hget)
    have hbW : W.heap[b]? = w.heap[b]? := (hI.only.block b (by have := HBB.out; omega) (by have := HBB.out; omega)).trans (HBL.out.block b hbw)
    have hlies : Lies W (pieceC b off x) sb := .inr (.inr ⟨b, off + x.val * 64, 64, by rw [hsl]; rfl, fun j hj => by
      have h1 := HAT.out (x.val * 64 + j) (by rw [flat_length hL]; omega)
      rw [World.cell?_of_block (a := ⟨b, off + x.val * 64 + j, none⟩) hbW, Nat.add_assoc, h1]
      have h2 := flat_get hL hget (show j < 64 by omega)
      simp only [List.getD, h2]⟩)
    have hun := unpack_any hlies hsm
    unfold Unpacked secV at hun
    obtain ⟨st, hst⟩ : ∃ s, s = stOf sb := ⟨_, rfl⟩
    obtain ⟨E, hE⟩ : ∃ E, E = unpackE sb := ⟨_, rfl⟩
    rw [← hst, ← hE] at hun
    obtain ⟨T, PL, LB, D⟩ := st
    have HUN := Lib.hid hun
    have HST := Lib.hid hst
    have HEE := Lib.hid hE
    have HI := Lib.hid hI
    have HSB := Lib.hid hsb
    obtain ⟨m, hm⟩ : ∃ m, m = pre.length := ⟨_, rfl⟩
    have hrow := hI.row
    rw [← hm] at hrow
    obtain ⟨av, cv, hv⟩ := own_slice hI.row
    rw [← hm] at hv hlt
    subst hv
    have q3 : ∀ W', Below W.heap.size W W' → W'.cell? ⟨B3, 0, none⟩ = some (.int .u32 (t : Int)) := fun W' hW' => by
      have h1 : W.cell? ⟨B3, 0, none⟩ = some (.int .u32 (t : Int)) := (HK3.out.only HI.out.only (by have := HBB.out; omega)).cell rfl
      exact (hW'.cell (p := ⟨B3, 0, none⟩) (cell_lt h1)).trans h1
    have q5 : ∀ W', Below W.heap.size W W' → W'.cell? ⟨B5, 0, none⟩ = some (.slice av m cv) := fun W' hW' => by
      have h1 : W.cell? ⟨B5, 0, none⟩ = some (.slice av m cv) := HI.out.box.cell rfl
      exact (hW'.cell (p := ⟨B5, 0, none⟩) (cell_lt h1)).trans h1
    have Q3 := Lib.hid q3
    have Q5 := Lib.hid q5
    have hm8 : m < 8192 := by omega
    have e1 : IntKind.u32.wrap (m : Int) = (m : Int) := by rw [IntKind.wrap_u32]; omega
    have HM2 := Lib.hid hm
    have HROW := Lib.hid hrow
    clear hsb hxL hget hsl hsm hbW hlies hun hst hE hI hm hrow q3 q5
    by_cases hE0 : E = 0
    · by_cases hT : T = t
      · by_cases hP : PL = m
        · have hac : accB t pre.length (secAt L x) = true := by
            unfold accB
            rw [← HSB.out, ← HEE.out, ← HST.out, ← HM2.out]
            simp [hE0, hT, hP]
          have HAC := Lib.hid hac
          have HDT := HST.out
          rw [HSB.out] at HDT
          have HDT := Lib.hid HDT
          obtain rfl := hT.symm
          obtain rfl := hP.symm
          subst hE0
          clear hac
          have hB5 : Hid (B5 < w2.heap.size) := Lib.hid (by have := HBB.out; omega)
          obtain ⟨i0, hi1, hi2, hi3, hi4⟩ := info_parts infoSec
          have HIN := Lib.hid (And.intro hi1 (And.intro hi2 (And.intro hi3 hi4)))
          clear hi1 hi2 hi3 hi4
          gi_wp2_with (first | (refine ⟨trivial, ?_⟩; gi_at_call 37; refine (CallsIn.inRound l (callsIn_wide.2 HUN.out)).mono ?_; rintro e w3 ⟨u, rfl, hu, hfu, hb3⟩; have HU3 := Lib.hid hu; have HB3 := Lib.hid hb3; have HB8 : Hid (∀ o o' o'', Below W.heap.size W (((w3.alloc o).alloc o').alloc o'')) := Lib.hid (fun o o' o'' => ((hb3.alloc hb3.size o).alloc (by rw [World.size_alloc]; have := hb3.size; omega) o').alloc (by rw [World.size_alloc, World.size_alloc]; have := hb3.size; omega) o''); have cell6 : Hid (∀ o o' o'' w6, World.grownBy (((w3.alloc o).alloc o').alloc o'') w6 (Value.slice av m cv).ownBlock → w6.cell? ⟨B5, 0, none⟩ = some (.slice av m cv)) := Lib.hid (fun o o' o'' w6 hg => (box_grown HI.out (HB8.out _ _ _) hB5.out hg).cell (i := 0) rfl); have free6 : Hid (∀ o o' o'' w6, World.grownBy (((w3.alloc o).alloc o').alloc o'') w6 (Value.slice av m cv).ownBlock → w6.frozen? ⟨B5, 0, none⟩ = false) := Lib.hid (fun o o' o'' w6 hg => (box_grown HI.out (HB8.out _ _ _) hB5.out hg).free 0); have c3 := (two_new w3 (Q3.out w3 hb3)).1; obtain ⟨c5, c6⟩ := two_new w3 (Q5.out w3 hb3); obtain ⟨au, cu, hu4⟩ := lies_len hu.lies; obtain ⟨nu, hnu⟩ : ∃ q, q = (⟨t, m, LB, D⟩ : Sec).data.length := ⟨_, rfl⟩; rw [← hnu] at hu4; subst hu4; obtain ⟨n1, n2⟩ := two_cells w3 (.int .u32 (t : Int)) (.int .u32 (m : Int)) (.bool LB) (.slice au nu cu) (.int .u32 (t : Int)) (.int .u32 (m : Int)) 77 75; have n10 := n1 0 _ rfl; have n11 := n1 1 _ rfl; have n12 := n1 2 _ rfl; have n13 := n1 3 _ rfl; have n20 := n2 0 _ rfl; have n21 := n2 1 _ rfl; clear hu hfu hb3 hnu n1 n2; dsimp only) | (gi_at_builtin; refine wpListIn_append_own_at _ rfl (.tmp 31) (.tmp 33) 69 rfl w2.heap.size 77 i0 _ 4 40 Tryd.underlying69 HIN.out.1 HIN.out.2.1 HIN.out.2.2.1 HIN.out.2.2.2 rfl (by omega) _ m _ rfl (row_only HROW.out (only_beyond (S := fun _ => False) (HB8.out _ _ _)) (fun _ _ e => e)) ⟨w3.heap.size + 1 + 1, 0, none⟩ 1 1 (secC (⟨t, m, LB, D⟩, .slice au nu cu)) rfl rfl (three_new _ _ _ _ _) (secC_one _ rfl) (by unfold maxLen; omega) (by omega) (Nat.le_trans HI.out.only.size (HB8.out _ _ _).size) ?_; intro v' w6 hown' hgrow _ hat; have HOWN := Lib.hid hown'; have HGR := Lib.hid hgrow; have HATT := Lib.hid hat; obtain ⟨g', cap', rfl⟩ := ownsRow_succ hown'; have c7 := cell6.out _ _ _ _ hgrow; have f7 := free6.out _ _ _ _ hgrow; clear hown' hgrow hat))
          have hstep := PlacedI.step (s := ⟨t, m, LB, D⟩) HI.out hB5.out HB3.out ((((Below.refl w3.heap.size w3).alloc (Nat.le_refl _) _).alloc (by rw [World.size_alloc]; omega) _).alloc (by rw [World.size_alloc, World.size_alloc]; omega) _) HU3.out HDT.out HAC.out HM2.out HGR.out HOWN.out HATT.out
          exact ⟨hstep.1, keepC_only HI.out.only hstep.2.only (by have := HBB.out; omega) (by have := HBB.out; omega) (by have := HBB.out; omega) (by have := HBB.out; omega), _, _, hstep.2⟩
        · have hf : ((PL : Int) == (m : Int)) = false := by simp; omega
          have hac : accB t pre.length (secAt L x) = false := by
            unfold accB
            rw [← HSB.out, ← HEE.out, ← HST.out, ← HM2.out]
            simp [hP]
          have HAC := Lib.hid hac
          obtain rfl := hT.symm
          subst hE0
          clear hac hP
          gi_wp2_with (refine ⟨trivial, ?_⟩; gi_at_call 37; refine (CallsIn.inRound l (callsIn_wide.2 HUN.out)).mono ?_; rintro e w3 ⟨u, rfl, hu, hfu, hb3⟩; have HU3 := Lib.hid hu; have HB3 := Lib.hid hb3; have c3 := (two_new w3 (Q3.out w3 hb3)).1; obtain ⟨c5, c6⟩ := two_new w3 (Q5.out w3 hb3); obtain ⟨au, cu, hu4⟩ := lies_len hu.lies; obtain ⟨nu, hnu⟩ : ∃ q, q = (⟨t, PL, LB, D⟩ : Sec).data.length := ⟨_, rfl⟩; rw [← hnu] at hu4; subst hu4; obtain ⟨n1, n2⟩ := two_cells w3 (.int .u32 (t : Int)) (.int .u32 (PL : Int)) (.bool LB) (.slice au nu cu) (.int .u32 (t : Int)) (.int .u32 (m : Int)) 77 75; have n10 := n1 0 _ rfl; have n11 := n1 1 _ rfl; have n12 := n1 2 _ rfl; have n13 := n1 3 _ rfl; have n20 := n2 0 _ rfl; have n21 := n2 1 _ rfl; clear hu hfu hb3 hnu n1 n2; dsimp only)
          have hbe := fun o o' => (((HB3.out).alloc HB3.out.size _).alloc (by simp; have := HB3.out.size; omega) _ : Below W.heap.size W ((w3.alloc o).alloc o'))
          exact ⟨others_below (hbe _ _), rfl, pre, x, rfl, HAC.out, _, r, HI.out.on (hbe _ _)⟩
      · have hf : ((T : Int) == (t : Int)) = false := by simp; omega
        have hac : accB t pre.length (secAt L x) = false := by
          unfold accB
          rw [← HSB.out, ← HEE.out, ← HST.out, ← HM2.out]
          simp [hT]
        have HAC := Lib.hid hac
        subst hE0
        clear hac hT
        gi_wp2_with (refine ⟨trivial, ?_⟩; gi_at_call 37; refine (CallsIn.inRound l (callsIn_wide.2 HUN.out)).mono ?_; rintro e w3 ⟨u, rfl, hu, hfu, hb3⟩; have HU3 := Lib.hid hu; have HB3 := Lib.hid hb3; have c3 := (two_new w3 (Q3.out w3 hb3)).1; obtain ⟨c5, c6⟩ := two_new w3 (Q5.out w3 hb3); obtain ⟨au, cu, hu4⟩ := lies_len hu.lies; obtain ⟨nu, hnu⟩ : ∃ q, q = (⟨T, PL, LB, D⟩ : Sec).data.length := ⟨_, rfl⟩; rw [← hnu] at hu4; subst hu4; obtain ⟨n1, n2⟩ := two_cells w3 (.int .u32 (T : Int)) (.int .u32 (PL : Int)) (.bool LB) (.slice au nu cu) (.int .u32 (t : Int)) (.int .u32 (m : Int)) 77 75; have n10 := n1 0 _ rfl; have n11 := n1 1 _ rfl; have n12 := n1 2 _ rfl; have n13 := n1 3 _ rfl; have n20 := n2 0 _ rfl; have n21 := n2 1 _ rfl; clear hu hfu hb3 hnu n1 n2; dsimp only)
        have hbe := fun o o' => (((HB3.out).alloc HB3.out.size _).alloc (by simp; have := HB3.out.size; omega) _ : Below W.heap.size W ((w3.alloc o).alloc o'))
        exact ⟨others_below (hbe _ _), rfl, pre, x, rfl, HAC.out, _, r, HI.out.on (hbe _ _)⟩
    · have hf : (E == 0) = false := by simpa using hE0
      have hac : accB t pre.length (secAt L x) = false := by
        unfold accB
        rw [← HSB.out, ← HEE.out]
        simp [hE0]
      have HAC := Lib.hid hac
      clear hac
      gi_wp2_with (refine ⟨trivial, ?_⟩; gi_at_call 37; refine (CallsIn.inRound l (callsIn_wide.2 HUN.out)).mono ?_; rintro e w3 ⟨u, rfl, hu, hfu, hb3⟩; have HU3 := Lib.hid hu; have HB3 := Lib.hid hb3; have c3 := (two_new w3 (Q3.out w3 hb3)).1; obtain ⟨c5, c6⟩ := two_new w3 (Q5.out w3 hb3); obtain ⟨au, cu, hu4⟩ := lies_len hu.lies; obtain ⟨nu, hnu⟩ : ∃ q, q = (⟨T, PL, LB, D⟩ : Sec).data.length := ⟨_, rfl⟩; rw [← hnu] at hu4; subst hu4; obtain ⟨n1, n2⟩ := two_cells w3 (.int .u32 (T : Int)) (.int .u32 (PL : Int)) (.bool LB) (.slice au nu cu) (.int .u32 (t : Int)) (.int .u32 (m : Int)) 77 75; have n10 := n1 0 _ rfl; have n11 := n1 1 _ rfl; have n12 := n1 2 _ rfl; have n13 := n1 3 _ rfl; have n20 := n2 0 _ rfl; have n21 := n2 1 _ rfl; clear hu hfu hb3 hnu n1 n2; dsimp only)
      have hbe := fun o o' => (((HB3.out).alloc HB3.out.size _).alloc (by simp; have := HB3.out.size; omega) _ : Below W.heap.size W ((w3.alloc o).alloc o'))
      exact ⟨others_below (hbe _ _), rfl, pre, x, rfl, HAC.out, _, r, HI.out.on (hbe _ _)⟩
  case done =>
    rintro D ys W hD rfl ⟨v, r, hI⟩ hK
    obtain ⟨av, cv, hv⟩ := own_slice hI.row
    rw [List.length_finRange] at hv
    have hu : PlacedI t L w2 B5 (uptoF N N) v r W := by rw [uptoF_all]; exact hI
    have HE := Lib.hid (placed_end hu hNl (Nat.le_refl _) (.inl rfl))
    have HT := Lib.hid (placed_told (w := w) hI HBL.out (by have := HBB.out; omega) hD hK rfl (.deferred none))
    have c5 : W.cell? ⟨B5, 0, none⟩ = some v := hI.box.cell rfl
    rw [hv] at c5
    subst hv
    clear hu hI
    gi_wp2
    refine ⟨by simp, .inl ⟨_, _, rfl, run_takeDeferred hK, ?_⟩⟩
    refine ⟨_, results_tmp rfl _ _ _, ?_⟩
    exact ⟨_, r, rfl, HT.out.1, HE.out, HT.out.2.1, HT.out.2.2⟩
  case stop =>
    rintro D cd pre W hD ⟨k, hk, rfl⟩ ⟨rfl, pre', x, v, r, hpre, hacc, hI⟩ hK
    obtain ⟨av, cv, hv⟩ := own_slice hI.row
    have hE : r.map Prod.fst = placedL t 0 L := by
      cases k with
      | zero => rw [uptoF_zero] at hpre; simp at hpre
      | succ k =>
        rw [uptoF_succ (show k < N by omega)] at hpre
        obtain ⟨h1, h2⟩ := List.append_inj' hpre rfl
        cases h2
        rw [← h1] at hacc hI
        exact placed_end hI hNl (by omega) (.inr (by rw [uptoF_length (by omega)] at hacc; exact hacc))
    have HE := Lib.hid hE
    have HT := Lib.hid (placed_told (w := w) hI HBL.out (by have := HBB.out; omega) hD hK rfl (.deferred none))
    have c5 : W.cell? ⟨B5, 0, none⟩ = some v := hI.box.cell rfl
    rw [hv] at c5
    subst hv
    clear hpre hacc hI hE
    gi_wp2
    refine ⟨by simp, .inl ⟨_, _, rfl, run_takeDeferred hK, ?_⟩⟩
    refine ⟨_, results_tmp rfl _ _ _, ?_⟩
    exact ⟨_, r, rfl, HT.out.1, HE.out, HT.out.2.1, HT.out.2.2⟩
end Go.Proofs.YtngeilhdambgfaaDoor
