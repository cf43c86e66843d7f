/- Writings and rows of sectors, built; a new row. -/
import Derived.Test.YtngeilhdambgfaaDoorDvAt
import Derived.Test.YtngeilhdambgfaaDoorGenOp
namespace Go.Proofs.YtngeilhdambgfaaDoor
open Go.RowKit

/-- a writing, built -/
def zeroW : List Value := .int .i64 0 :: u8s (List.replicate 64 0)
theorem zeroW_length : zeroW.length = 65 := by simp [zeroW, u8s_length]
theorem built_writing (n : Int) (l : List Value) (hl : l.length = 64) : Tryd.prog.built 64 [(0, .int .i64 n), (1, .agg l.toArray)] = some (.int .i64 n :: l).toArray := by
  have h : ∀ ps, Tryd.prog.built 64 ps = Instr.fill (#[((0 : Nat), (1 : Nat)), (1, 64)][·]?) zeroW.toArray ps := by intro ps; kernel_rfl
  rw [h, fill_next _ _ 0 0 1 _ [.int .i64 n] _ rfl rfl rfl (by rw [zeroW_length]; omega), fill_last _ _ 1 1 64 _ l rfl rfl hl (by rw [length_splice _ _ _ (by rw [zeroW_length]; simp), zeroW_length]; omega)]
  unfold splice zeroW
  simp [hl, u8s]
theorem infoW : (Tryd.prog.info? 64).map (fun i => (i.zero, i.size, i.bytes)) = some (some (.agg zeroW.toArray), 65, 72) := by kernel_rfl
theorem infoS : (Tryd.prog.info? 62).map (fun i => (i.zero, i.size, i.bytes)) = some (some (.agg (u8s (List.replicate 64 0)).toArray), 64, 64) := by kernel_rfl
theorem sizeS {l : List Value} (h : l.length = 64) : (Tryd.prog.info? 62).map (·.size) = some l.length := by rw [h]; kernel_rfl
theorem sizeW {l : List Value} (h : l.length = 65) : (Tryd.prog.info? 64).map (·.size) = some l.length := by rw [h]; kernel_rfl
theorem made_sect (n : Nat) : (madeCells (Value.agg (u8s (List.replicate 64 0)).toArray).cells (n * 64)).toList = u8s (List.replicate n (List.replicate 64 0)).flatten := by
  have e : (List.replicate n (List.replicate 64 0)).flatten = List.replicate (n * 64) 0 := by
    rw [List.flatten_replicate_replicate]
  rw [e]
  unfold u8s
  rw [List.map_replicate, List.map_replicate]
  exact made_rep (by omega)
theorem run_make_sect (w : World) {o : Oper} {a : Act} (l c : Operand) (ho : o.op = .makeSlice 51 l c) (n : Nat) (hn : n ≤ 8192) (hl : a.eval l = .int .i64 (n : Int)) (hc : a.eval c = .int .i64 (n : Int)) :
    ∃ W g, (execOp a.eval o).run Tryd.prog w = .ok (.value (.slice (some ⟨g, 0, none⟩) n n)) W ∧ Arr W g 62 (u8s (List.replicate n (List.replicate 64 0)).flatten) ∧ Below w.heap.size w W ∧ g = w.heap.size := by
  obtain ⟨i, hi1, hi2, hi3, hi4⟩ := info_parts infoS
  obtain ⟨W, hrun, hown, hg⟩ := run_make_full (P := Tryd.prog) w w.heap.size 51 62 i _ 64 Tryd.underlying51 hi1 hi2 hi3 .i64 .i64 n (by rw [hi4]; omega) (by unfold maxLen; omega) (Nat.le_refl _)
  refine ⟨W, w.heap.size, ?_, ?_, (Below.refl w.heap.size w).grown hg (Nat.le_refl _) (fun k hk => by cases hk), rfl⟩
  · unfold execOp
    simp only [ho, hl, hc, Sem.run_bind, hrun, Result.andThen_ok, Sem.run_pure]
  · rw [made_sect] at hown
    rcases hown.2 with ⟨hv, _⟩ | ⟨g', cap, cur, hv, _, hg, _, _, hcs, ht⟩
    · cases hv
    · cases hv
      have : cur.toList = u8s (List.replicate n (List.replicate 64 0)).flatten := by rw [← ht, List.take_of_length_le (by simp at hcs ⊢; omega)]
      unfold Arr; rw [← this]; simpa using hg
theorem step_make_sect {w : World} {ops : Array Oper} {o : Oper} {a : Act} {K : Act → World → Prop} {Q : Exit → Act → World → Prop} {E : Prop} (d : Option Tmp) (hgd : o.guard = none) (hd : o.dst = d) (l c : Operand) (ho : o.op = .makeSlice 51 l c) (n : Nat) (hn : n ≤ 8192) (hl : a.eval l = .int .i64 (n : Int)) (hc : a.eval c = .int .i64 (n : Int))
    (h : ∀ W g, Arr W g 62 (u8s (List.replicate n (List.replicate 64 0)).flatten) → Below w.heap.size w W → g = w.heap.size → K (a.put d (.slice (some ⟨g, 0, none⟩) n n)) W) : if Region.wanted o (yielded ops a.tmps) = true then Oper.wp Tryd.prog o a w K Q else E := by
  subst hd
  obtain ⟨W, g, hr, h1, h2, h3⟩ := run_make_sect w l c ho n hn hl hc
  exact step_run hgd hr (h W g h1 h2 h3)
/-- one writing more onto the row of those that wait -/
theorem step_append_w {w : World} {ops : Array Oper} {o : Oper} {a : Act} {K : Act → World → Prop} {Q : Exit → Act → World → Prop} {E : Prop} (d : Option Tmp) (hgd : o.guard = none) (hd : o.dst = d) (s x : Operand)
    (ho : o.op = .call { callee := .builtin .append, args := #[s, x], argTypes := #[52, 52] }) (B : Nat) (v : Value) (n : Nat) (xs : List Value) (hs : a.eval s = v) (hown : w.ownsRow B 64 65 v n xs)
    (g0 : Nat) (news : List Value) (hx : a.eval x = .slice (some ⟨g0, 0, none⟩) 1 1) (hl : news.length = 65) (hg0 : Arr w g0 64 news) (h1 : ∀ u ∈ news, u.oneCell' = true) (hn : n ≤ 1000000000) (hB : B ≤ w.heap.size) (H : Nat) (hH : w.heap.size = H)
    (h : ∀ g cap w', w'.ownsRow B 64 65 (.slice (some ⟨g, 0, none⟩) (n + 1) cap) (n + 1) (xs ++ news) → w.grownBy w' v.ownBlock → (v.ownBlock = some g ∨ g = H) → g < w'.heap.size → K (a.put d (.slice (some ⟨g, 0, none⟩) (n + 1) cap)) w') :
    if Region.wanted o (yielded ops a.tmps) = true then Oper.wp Tryd.prog o a w K Q else E := by
  subst hd
  obtain ⟨i, hi1, hi2, hi3, hi4⟩ := info_parts infoW
  exact step_append_lies w hgd s x 52 ho B 64 i _ 65 72 Tryd.underlying52 hi1 hi2 hi3 hi4 (by show zeroW.toArray.size = 65; rw [List.size_toArray, zeroW_length]) (by omega) v n xs hs hown ⟨g0, 0, none⟩ 1 1 news hx (by omega)
    (fun j u hu => by rw [add_at, Nat.zero_add]; exact hg0.cell hu) h1 (by omega) (by unfold maxLen; omega) (by omega) hB H hH h
end Go.Proofs.YtngeilhdambgfaaDoor
