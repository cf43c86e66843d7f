/- Package hold: a table, as it lies; New, held, has, Len. -/
import Derived.Test.YtphgkkdpdiiioaaHoMap
import Derived.Test.YtphgkkdpdiiioaaGenOpC
namespace Go.Proofs.Ytphgkkdpdiiioaa
open Go.RowKit Go.Maps

/-- a table in a block of its own -/
structure TabAt (w : World) (p : Nat) (b : Option Nat) (m : List Hld) : Prop where
  blk : w.heap[p]? = some (.cells #[.map b] 52 (0, 0))
  own : ∀ g, b = some g → MapIs w g m
  nil0 : b = none → m = []
/-- its blocks -/
def TFoot (p : Nat) (b : Option Nat) (k : Nat) : Prop := k = p ∨ b = some k
theorem TabAt.off {w : World} {p : Nat} {b : Option Nat} {m : List Hld} {k : Nat} {cs : Array Value} {t : TypeId} {fr : Nat × Nat} (h : TabAt w p b m) (hk : w.heap[k]? = some (.cells cs t fr)) (ht : t ≠ 52) : ¬ TFoot p b k := by
  rintro (rfl | rfl)
  · have := h.blk
    rw [hk] at this
    injection this with this
    injection this with _ this
    exact ht this
  · exact (h.own k rfl).ne hk rfl
theorem TabAt.lt {w : World} {p : Nat} {b : Option Nat} {m : List Hld} (h : TabAt w p b m) : ∀ k, TFoot p b k → k < w.heap.size := by
  rintro k (rfl | rfl)
  · exact lt_of_block h.blk
  · exact (h.own k rfl).lt
theorem TabAt.only {S : Nat → Prop} {w w' : World} {p : Nat} {b : Option Nat} {m : List Hld} (h : TabAt w p b m) (ho : Only S w w') (hS : ∀ k, TFoot p b k → ¬ S k) : TabAt w' p b m :=
  ⟨(ho.block p (lt_of_block h.blk) (hS p (.inl rfl))).trans h.blk, fun g hg => (h.own g hg).only ho (hS g (.inr hg)), h.nil0⟩
theorem TabAt.below {w w' : World} {p : Nat} {b : Option Nat} {m : List Hld} (h : TabAt w p b m) (hb : Below w.heap.size w w') : TabAt w' p b m :=
  ⟨(hb.block p (lt_of_block h.blk)).trans h.blk, fun g hg => (h.own g hg).below hb, h.nil0⟩
theorem TabAt.bare {w : World} {p : Nat} (h : w.heap[p]? = some (.cells #[.map none] 52 (0, 0))) : TabAt w p none [] := ⟨h, fun g hg => (by cases hg), fun _ => rfl⟩
theorem TabAt.drewN {w : World} {p : Nat} {b : Option Nat} {m : List Hld} (h : TabAt w p b m) (n : Nat) : TabAt (w.drewN n) p b m := h.only (only_drewN (fun _ => False) w n) (fun _ _ h => h)
theorem TabAt.old {w : World} {p : Nat} {b : Option Nat} {m : List Hld} (h : TabAt w p b m) (o : Obj) : TabAt (w.alloc o) p b m := h.below ((Below.refl _ _).alloc (Nat.le_refl _) _)
theorem TabAt.apart {w : World} {p : Nat} {b : Option Nat} {m : List Hld} (h : TabAt w p b m) : b ≠ some p := by
  rintro rfl
  exact (h.own p rfl).ne h.blk rfl
theorem foot_row {B : Nat} {w : World} {p : Nat} {b : Option Nat} {m : List Hld} {e : TypeId} {s n : Nat} {v : Value} {xs : List Value} (h : TabAt w p b m) (hr : w.ownsRow B e s v n xs) (he : e ≠ 52) : ∀ k, v.ownBlock = some k → ¬ TFoot p b k := by
  rcases hr.2 with ⟨rfl, _⟩ | ⟨g, cap, cur, rfl, _, hg, _⟩
  · intro k hk; simp [Value.ownBlock] at hk
  · intro k hk
    injection hk with hk
    subst hk
    exact h.off hg he
/-- a new one -/
theorem honew_any (w : World) : Calls Try.prog 7 #[] w fun e w' => ∃ p, e = .returned (.pointer (some ⟨p, 0, none⟩)) ∧ TabAt w' p none [] ∧ w.heap.size ≤ p ∧ Below w.heap.size w w' := by
  go_enter Try.func7, Try.ntmps7
  go_wp2_with fail
  go_ret
  exact ⟨w.heap.size, rfl, TabAt.bare (heap_alloc_new w _), Nat.le_refl _, (Below.refl _ _).alloc (Nat.le_refl _) _⟩
theorem TabAt.cell {w : World} {p : Nat} {b : Option Nat} {m : List Hld} (h : TabAt w p b m) : w.cell? ⟨p, 0, none⟩ = some (.map b) ∧ w.frozen? ⟨p, 0, none⟩ = false := cells1 h.blk
theorem hoheld_any {w : World} {p : Nat} {b : Option Nat} {m : List Hld} (h : TabAt w p b m) : Calls Try.prog 24 #[.pointer (some ⟨p, 0, none⟩)] w fun e w' => e = .returned (.map b) ∧ w' = w := by
  obtain ⟨c0, -⟩ := h.cell
  clear h
  go_enter Try.func24, Try.ntmps24
  go_wp2_with fail
  go_ret
  exact ⟨rfl, rfl⟩
theorem hoheld_none (w : World) : Calls Try.prog 24 #[.pointer none] w fun e w' => e = .returned (.map none) ∧ w' = w := by
  go_enter Try.func24, Try.ntmps24
  go_wp2_with fail
  go_ret
  exact ⟨rfl, rfl⟩
theorem run_len_nil {w : World} {o : Oper} {a : Act} (x : Operand) (ho : o.op = .call { callee := .builtin .len, args := #[x], argTypes := #[50] }) (hx : a.eval x = .map none) : (execOp a.eval o).run Try.prog w = .ok (.value (.int .i64 0)) w := by
  simp [execOp, ho, resolve, invoke, builtin, hx, Maps.len_nil mapT o.type, Result.andThen]
theorem run_len_map {w : World} {o : Oper} {a : Act} {g : Nat} {m : List Hld} (x : Operand) (ho : o.op = .call { callee := .builtin .len, args := #[x], argTypes := #[50] }) (hx : a.eval x = .map (some g)) (h : MapIs w g m) : (execOp a.eval o).run Try.prog w = .ok (.value (.int .i64 (m.length : Int))) w := by
  obtain ⟨es, h1, h2⟩ := h
  have := h1.len mapT o.type
  rw [MapIs.size h2] at this
  simp [execOp, ho, resolve, invoke, builtin, hx, this, Result.andThen]
set_option maxHeartbeats 2000000 in
theorem holen_any {w : World} {p : Nat} {b : Option Nat} {m : List Hld} (h : TabAt w p b m) : Calls Try.prog 14 #[.pointer (some ⟨p, 0, none⟩)] w fun e w' => e = .returned (.int .i64 (m.length : Int)) ∧ w' = w := by
  have H := Lib.hid (hoheld_any h)
  have HM := Lib.hid h.own
  have hL : Hid (∀ (o : Oper) (a : Act), o.op = .call { callee := .builtin .len, args := #[.tmp 4], argTypes := #[50] } → a.eval (.tmp 4) = .map b → (execOp a.eval o).run Try.prog w = .ok (.value (.int .i64 (m.length : Int))) w) := Lib.hid (by
    intro o a h1 h2
    cases b with
    | none => rw [h.nil0 rfl]; exact run_len_nil _ h1 h2
    | some g => exact run_len_map _ h1 h2 (HM.out g rfl))
  obtain ⟨n, hn⟩ : ∃ n, n = m.length := ⟨_, rfl⟩
  rw [← hn] at hL ⊢
  clear h HM hn
  go_enter Try.func14, Try.ntmps14
  repeat (first | go_values | go_skip | go_guarded | go_step)
  refine H.out.mono ?_
  rintro e w1 ⟨rfl, hw⟩
  replace hw := hw.symm
  subst hw
  dsimp only
  go_wp2_with (refine wpList_value rfl (hL.out _ _ rfl rfl) ?_)
  go_ret
  exact ⟨rfl, rfl⟩
set_option maxHeartbeats 2000000 in
theorem holen_none (w : World) : Calls Try.prog 14 #[.pointer none] w fun e w' => e = .returned (.int .i64 0) ∧ w' = w := by
  have H := Lib.hid (hoheld_none w)
  go_enter Try.func14, Try.ntmps14
  repeat (first | go_values | go_skip | go_guarded | go_step)
  refine H.out.mono ?_
  rintro e w1 ⟨rfl, hw⟩
  replace hw := hw.symm
  subst hw
  dsimp only
  go_wp2_with (refine wpList_value rfl (run_len_nil _ rfl rfl) ?_)
  go_ret
  exact ⟨rfl, rfl⟩
theorem zeroHold (w : World) : (zeroValue 30).run Try.prog w = .ok (default : Hld).val w := Try.zeroValue30 w
theorem run_look_nil {w : World} {o : Oper} {a : Act} {n : ByteArray} (x y : Operand) (ho : o.op = .lookup 50 x y true) (hx : a.eval x = .map none) (hy : a.eval y = .string n) (hn : n.size ≤ maxLen) : (execOp a.eval o).run Try.prog w = .ok (.value (.tuple #[(default : Hld).val, .bool false])) w := by
  have := Maps.look_nil (w := w) true keyS mapT (zeroHold w) (litS_of hn)
  simp [execOp, ho, hx, hy, this, Result.andThen]
theorem run_look_map {w : World} {o : Oper} {a : Act} {n : ByteArray} {g : Nat} {m : List Hld} (x y : Operand) (ho : o.op = .lookup 50 x y true) (hx : a.eval x = .map (some g)) (hy : a.eval y = .string n) (hn : n.size ≤ maxLen) (h : MapIs w g m) : ∃ u : Hld, (execOp a.eval o).run Try.prog w = .ok (.value (.tuple #[u.val, .bool (hasH m n)])) w := by
  obtain ⟨es, h1, h2⟩ := h
  obtain ⟨v, ps, hr, hv⟩ := h1.look_ok keyS mapT (zeroHold w) (readH_val default) (litS_of hn)
  obtain ⟨u, rfl, _⟩ := readH_inv hv
  rw [MapIs.has h2] at hr
  exact ⟨u, by simp [execOp, ho, hx, hy, hr, Result.andThen]⟩
set_option maxHeartbeats 4000000 in
theorem hohas_any {w : World} {p : Nat} {b : Option Nat} {m : List Hld} {n : ByteArray} (h : TabAt w p b m) (hn : n.size ≤ maxLen) : Calls Try.prog 21 #[.pointer (some ⟨p, 0, none⟩), .string n] w fun e w' => e = .returned (.bool (hasH m n)) ∧ Below w.heap.size w w' := by
  have H := Lib.hid (hoheld_any h)
  have HM := Lib.hid h.own
  have HN := Lib.hid h.nil0
  clear h
  have key : ∃ u : Hld, ∀ (o : Oper) (a : Act), o.op = .lookup 50 (.tmp 9) (.tmp 10) true → a.eval (.tmp 9) = .map b → a.eval (.tmp 10) = .string n → (execOp a.eval o).run Try.prog w = .ok (.value (.tuple #[u.val, .bool (hasH m n)])) w := by
    cases b with
    | none =>
      rw [HN.out rfl]
      exact ⟨default, fun o a h1 h2 h3 => run_look_nil _ _ h1 h2 h3 hn⟩
    | some g =>
      have hm := HM.out g rfl
      obtain ⟨es, h1, h2⟩ := hm
      obtain ⟨v, ps, hr, hv⟩ := h1.look_ok keyS mapT (zeroHold w) (readH_val default) (litS_of hn)
      obtain ⟨u, rfl, _⟩ := readH_inv hv
      rw [MapIs.has h2] at hr
      exact ⟨u, fun o a ho hx hy => by simp [execOp, ho, hx, hy, hr, Result.andThen]⟩
  obtain ⟨u, hu⟩ := key
  have HU := Lib.hid hu
  obtain ⟨q, hq⟩ : ∃ q, q = hasH m n := ⟨_, rfl⟩
  rw [← hq] at HU ⊢
  clear hu hq HM HN hn
  unfold Hld.val at HU
  go_enter Try.func21, Try.ntmps21
  repeat (first | go_values | go_skip | go_guarded | go_step)
  refine H.out.mono ?_
  rintro e w1 ⟨rfl, hw⟩
  replace hw := hw.symm
  subst hw
  dsimp only
  go_wp2_with (refine wpList_value rfl (HU.out _ _ rfl rfl rfl) ?_)
  go_ret
  exact ⟨rfl, (Below.refl _ _).alloc (Nat.le_refl _) _⟩
end Go.Proofs.Ytphgkkdpdiiioaa
