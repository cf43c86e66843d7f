/- Parts of bytes: slices of what came in, rows of one's own. -/
import Derived.Test.YtfbnnhailnbmiaaDoorHaDig
import Derived.OwnWalk
namespace Go.Proofs.YtfbnnhailnbmiaaDoor
open Go.RowKit

/-! ### b[lo:hi] -/
def midS (a : Option Addr) (cap lo hi : Nat) : Value := .slice (if cap = lo then a else a.map (·.add lo)) (hi - lo) (cap - lo)
theorem run_mid {P : Program} (w : World) (t e : TypeId) (ht : P.underlying t = some (.slice e)) (hs : (P.info? e).map (·.size) = some 1) (a : Option Addr) (m cap lo hi : Nat) (low high : Option Value)
    (hb : (Instr.sliceBounds true m cap low high none).run P w = .ok (lo, hi, cap) w) :
    (Instr.sliceAt t (.slice a m cap) low high none).run P w = .ok (midS a cap lo hi) w := by
  cases hq : P.info? e with
  | none => simp [hq] at hs
  | some ii =>
    have hss : ii.size = 1 := by simpa [hq] using hs
    have hsz : (sizeOf e).run P w = .ok 1 w := by simp [sizeOf, typeInfo, hq, hss]
    have h1 : (Instr.sliceAt t (.slice a m cap) low high none).run P w = (Instr.slice t (.slice a m cap) low high none).run P w := by simp [Instr.sliceAt, run_underlying ht]
    rw [h1]
    simp only [Instr.slice, Sem.run_bind, run_underlying ht, Result.andThen_ok, hb, hsz, Sem.run_pure, midS, Nat.mul_one]
theorem bounds_lh {P : Program} (w : World) (m cap lo hi : Nat) (h1 : lo ≤ hi) (h2 : hi ≤ cap) : (Instr.sliceBounds true m cap (some (.int .i64 (lo : Int))) (some (.int .i64 (hi : Int))) none).run P w = .ok (lo, hi, cap) w := by
  simp [Instr.sliceBounds, Instr.sliceBound, asIntOf, h1, h2]
theorem bounds_h {P : Program} (w : World) (m cap hi : Nat) (h2 : hi ≤ cap) : (Instr.sliceBounds true m cap none (some (.int .i64 (hi : Int))) none).run P w = .ok (0, hi, cap) w := by
  simp [Instr.sliceBounds, Instr.sliceBound, asIntOf, h2]
theorem bounds_l {P : Program} (w : World) (m cap lo : Nat) (h1 : lo ≤ m) : (Instr.sliceBounds true m cap (some (.int .i64 (lo : Int))) none none).run P w = .ok (lo, m, cap) w := by
  simp [Instr.sliceBounds, Instr.sliceBound, asIntOf, h1]
theorem run_mid_op {P : Program} (w : World) {o : Oper} {a : Act} (t : TypeId) (x : Operand) (lo hi : Option Operand) (ho : o.op = .slice t x lo hi none) (e : TypeId) (ht : P.underlying t = some (.slice e)) (hs : (P.info? e).map (·.size) = some 1)
    (a0 : Option Addr) (m cap l h : Nat) (low high : Option Value) (hx : a.eval x = .slice a0 m cap) (hlo : lo.map a.eval = low) (hhi : hi.map a.eval = high) (hb : ∀ w, (Instr.sliceBounds true m cap low high none).run P w = .ok (l, h, cap) w) :
    (execOp a.eval o).run P w = .ok (.value (midS a0 cap l h)) w := by
  unfold execOp
  simp only [ho, hx, hlo, hhi, Option.map_none, Sem.run_bind, run_mid w t e ht hs a0 m cap l h low high (hb w), Result.andThen_ok, Sem.run_pure]
theorem wpList_mid {P : Program} {ops : Array Oper} {rest : List Oper} {o : Oper} {a : Act} {w : World} {Q : Exit → Act → World → Prop} (hgd : o.guard = none) (t : TypeId) (x : Operand) (lo hi : Option Operand) (ho : o.op = .slice t x lo hi none)
    (e : TypeId) (ht : P.underlying t = some (.slice e)) (hs : (P.info? e).map (·.size) = some 1) (a0 : Option Addr) (m cap l h : Nat) (low high : Option Value) (hx : a.eval x = .slice a0 m cap) (hlo : lo.map a.eval = low) (hhi : hi.map a.eval = high)
    (hb : ∀ w, (Instr.sliceBounds true m cap low high none).run P w = .ok (l, h, cap) w) (hK : ∀ V, Hid (V = midS a0 cap l h) → wpList P ops Q rest (a.put o.dst V) w) : wpList P ops Q (o :: rest) a w :=
  wpList_plain hgd fun _ hK' => by
    unfold Oper.wp
    rw [run_mid_op w t x lo hi ho e ht hs a0 m cap l h low high hx hlo hhi hb]
    exact hK' _ _ (hK _ rfl)
theorem lies_mid {w : World} {a : Option Addr} {c : Nat} {bs : List Nat} (hv : Lies w (.slice a bs.length c) bs) (hf : bs.length ≤ c) {lo hi : Nat} (h1 : lo ≤ hi) (h2 : hi ≤ bs.length) : Lies w (midS a c lo hi) ((bs.drop lo).take (hi - lo)) := by
  unfold midS
  rcases hv with ⟨hv, rfl⟩ | ⟨ad, c', hv, rfl⟩ | ⟨b, off, c', hv, hb⟩
  · cases hv
    have h3 : hi = 0 := by simpa using h2
    subst h3
    have h4 : lo = 0 := by omega
    subst h4
    exact .inl ⟨by simp, by simp⟩
  · cases hv
    have h3 : hi = 0 := by simpa using h2
    subst h3
    have h4 : lo = 0 := by omega
    subst h4
    refine .inr (.inl ⟨ad, c, ?_, by simp⟩)
    simp [Addr.add]
  · cases hv
    have hl : ((bs.drop lo).take (hi - lo)).length = hi - lo := by rw [List.length_take, List.length_drop]; omega
    by_cases he : hi - lo = 0
    · refine .inr (.inl ⟨if c = lo then ⟨b, off, none⟩ else ⟨b, off + lo, none⟩, c - lo, ?_, List.length_eq_zero_iff.1 (by rw [hl]; exact he)⟩)
      rw [he]
      split <;> simp [add_at]
    · refine .inr (.inr ⟨b, off + lo, c - lo, ?_, fun j hj => ?_⟩)
      · rw [hl, if_neg (by omega), Option.map_some, add_at]
      · rw [hl] at hj
        have := hb (lo + j) (by omega)
        rw [Nat.add_assoc, this]
        simp [List.getD, hj]
theorem fits_mid {a : Option Addr} {c lo hi : Nat} (h : hi ≤ c) : Fits (midS a c lo hi) := fits_slice (by omega)

theorem off_const (w : World) (l : List Nat) (fr : Nat × Nat) {P : Nat} (hP : P < w.heap.size) (hl : l ≠ []) : Off (w.alloc (.cells (u8s l).toArray 5 fr)) P (.slice (some ⟨w.heap.size, 0, none⟩) l.length l.length) l := by
  rcases const_lies w l fr with ⟨hv, hb⟩ | ⟨_, _, _, hb⟩ | ⟨b, off, c, hv, hb⟩
  · exact absurd hb hl
  · exact absurd hb hl
  · cases hv
    exact .inr ⟨_, 0, _, rfl, hb, by omega, hl, Nat.le_refl _⟩

/-! ### Rows of one's own -/
theorem own_fits {w : World} {B : Nat} {e : TypeId} {v : Value} {n : Nat} {xs : List Value} (h : w.ownsRow B e 1 v n xs) : Fits v := by
  rcases h.2 with ⟨rfl, h0⟩ | ⟨g, cap, cur, rfl, _, _, hc, _⟩
  · exact fits_slice (Nat.le_refl _)
  · exact fits_slice hc
theorem off_own {w : World} {B P : Nat} {v : Value} {n : Nat} {l : List Nat} (h : w.ownsRow B 5 1 v n (u8s l)) (hP : P < B) : Off w P v l := by
  have hl := ownsRow_lies h
  have hf := own_fits h
  rcases h.2 with ⟨rfl, h0⟩ | ⟨g, cap, cur, rfl, hg, _, hc, _⟩
  · have : l = [] := by have := h.1; rw [u8s_length] at this; exact List.length_eq_zero_iff.1 (by omega)
    exact .inl ⟨_, _, rfl, this⟩
  · have hn : l.length = n := by have := h.1; rw [u8s_length] at this; omega
    by_cases hne : l = []
    · subst hne; simp at hn; subst hn; exact .inl ⟨_, _, rfl, rfl⟩
    · rcases hl with ⟨hv, hb⟩ | ⟨_, _, _, hb⟩ | ⟨b, off, c, hv, hb⟩
      · exact absurd hb hne
      · exact absurd hb hne
      · cases hv
        exact .inr ⟨g, 0, cap, by rw [hn], hb, by omega, hne, by omega⟩
/-- bytes in a row of one's own, whatever they are -/
def BytesIn (w : World) (v : Value) (n : Nat) : Prop := ∀ g cap, v = .slice (some ⟨g, 0, none⟩) n cap → ∃ cur : List Value, Arr w g 5 cur ∧ ∀ k, k < n → ∃ z : Nat, z < 256 ∧ cur[k]? = some (.int .u8 (z : Int))
theorem own_bytesIn {w : World} {B : Nat} {v : Value} {n : Nat} {l : List Nat} (h : w.ownsRow B 5 1 v n (u8s l)) (hb : ∀ x ∈ l, x < 256) : BytesIn w v n := by
  intro g cap hv
  subst hv
  rcases h.2 with ⟨hv, _⟩ | ⟨g', cap', cur, hv, _, hg, _, _, _, ht⟩
  · cases hv
  · cases hv
    have hn : l.length = n := by have := h.1; rw [u8s_length] at this; omega
    refine ⟨cur.toList, by unfold Arr; simpa using hg, fun k hk => ⟨l.getD k 0, getD_lt hb k, ?_⟩⟩
    have h1 := u8s_getD l k (by omega)
    rw [← ht, List.getElem?_take, if_pos (by omega)] at h1
    exact h1
theorem BytesIn.set {w : World} {g n cap : Nat} {i z : Nat} (h : BytesIn w (.slice (some ⟨g, 0, none⟩) n cap) n) (hz : z < 256) : BytesIn (w.setCell ⟨g, i, none⟩ (.int .u8 (z : Int))) (.slice (some ⟨g, 0, none⟩) n cap) n := by
  intro g' cap' hv
  cases hv
  obtain ⟨cur, ha, hc⟩ := h g cap rfl
  refine ⟨cur.set i (.int .u8 (z : Int)), ha.set i _, fun k hk => ?_⟩
  by_cases hki : i = k
  · subst hki
    have hl : i < cur.length := by obtain ⟨z', _, h'⟩ := hc i hk; exact (List.getElem?_eq_some_iff.1 h').1
    exact ⟨z, hz, by rw [List.getElem?_set_self hl]⟩
  · obtain ⟨z', h1, h2⟩ := hc k hk
    exact ⟨z', h1, by rw [List.getElem?_set_ne hki]; exact h2⟩
end Go.Proofs.YtfbnnhailnbmiaaDoor
