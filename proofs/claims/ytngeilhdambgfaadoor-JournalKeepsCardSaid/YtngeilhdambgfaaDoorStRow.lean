/- Rows of sectors in memory; a record's sectors. -/
import Derived.Test.YtngeilhdambgfaaDoorStUnp
namespace Go.Proofs.YtngeilhdambgfaaDoor
open Go.RowKit

def secC (x : (Sec × Value)) : List Value := [.int .u32 (x.1.turn : Int), .int .u32 (x.1.place : Int), .bool x.1.last, x.2]
theorem secV_C (s : Sec) (u : Value) : secV s u = .agg (secC (s, u)).toArray := rfl
def rowC (r : List (Sec × Value)) : List Value := r.flatMap secC
theorem rowC_length (r : List (Sec × Value)) : (rowC r).length = 4 * r.length := by
  unfold rowC
  induction r with
  | nil => rfl
  | cons x r ih => simp [List.flatMap_cons, ih, secC]; omega
theorem rowC_append (a b : List (Sec × Value)) : rowC (a ++ b) = rowC a ++ rowC b := by simp [rowC]
theorem rowC_cons (x : (Sec × Value)) (l : List (Sec × Value)) : rowC (x :: l) = secC x ++ rowC l := rfl
theorem rowC_get {r : List (Sec × Value)} {i : Nat} {x : (Sec × Value)} (h : r[i]? = some x) (j : Nat) (hj : j < 4) : (rowC r)[4 * i + j]? = (secC x)[j]? := by
  obtain ⟨hi, rfl⟩ := List.getElem?_eq_some_iff.1 h
  have e : r = r.take i ++ (r[i] :: r.drop (i + 1)) := by rw [← List.drop_eq_getElem_cons hi, List.take_append_drop]
  have e2 : rowC r = rowC (r.take i) ++ (secC r[i] ++ rowC (r.drop (i + 1))) := by
    conv => lhs; rw [e]
    rw [rowC_append, rowC_cons]
  have hl : (rowC (r.take i)).length = 4 * i := by rw [rowC_length, List.length_take]; omega
  rw [e2, List.getElem?_append_right (by omega), hl, show 4 * i + j - 4 * i = j by omega, List.getElem?_append_left (by simp [secC]; omega)]
theorem rowC_set {r : List (Sec × Value)} {i : Nat} (x : (Sec × Value)) (hi : i < r.length) : splice (rowC r) (4 * i) (secC x) = rowC (r.set i x) := by
  have e : r = r.take i ++ (r[i] :: r.drop (i + 1)) := by rw [← List.drop_eq_getElem_cons hi, List.take_append_drop]
  have e3 : rowC (r.set i x) = rowC (r.take i) ++ (secC x ++ rowC (r.drop (i + 1))) := by
    rw [List.set_eq_take_append_cons_drop, if_pos hi, rowC_append, rowC_cons]
  have e2 : rowC r = rowC (r.take i) ++ (secC r[i] ++ rowC (r.drop (i + 1))) := by
    conv => lhs; rw [e]
    rw [rowC_append, rowC_cons]
  have hl : (rowC (r.take i)).length = 4 * i := by rw [rowC_length, List.length_take]; omega
  have hs : (secC r[i]).length = 4 := rfl
  have hx : (secC x).length = 4 := rfl
  have d : (rowC (r.take i) ++ (secC r[i] ++ rowC (r.drop (i + 1)))).drop (4 * i + 4) = rowC (r.drop (i + 1)) := by
    rw [← List.append_assoc]
    exact List.drop_left' (by rw [List.length_append, hl, hs])
  unfold splice
  rw [e2, e3, List.take_left' hl, hx, d]
theorem secC_one (x : (Sec × Value)) (h : x.2.oneCell' = true) : ∀ u ∈ secC x, u.oneCell' = true := by
  intro u hu
  simp only [secC, List.mem_cons, List.not_mem_nil, or_false] at hu
  rcases hu with rfl | rfl | rfl | rfl
  · rfl
  · rfl
  · rfl
  · exact h
theorem infoSec : (Tryd.prog.info? 77).map (fun i => (i.zero, i.size, i.bytes)) = some (some (.agg (secC (Sec.none, .slice none 0 0)).toArray), 4, 40) := by kernel_rfl
def noneU : (Sec × Value) := (Sec.none, .slice none 0 0)
theorem made_secs (n : Nat) : (madeCells (secC noneU).toArray (n * 4)).toList = rowC (List.replicate n noneU) := by
  have hl : (rowC (List.replicate n noneU)).length = 4 * n := by rw [rowC_length, List.length_replicate]
  refine List.ext_getElem? fun k => ?_
  by_cases hk : k < 4 * n
  · have h1 : (List.replicate n noneU)[k / 4]? = some noneU := by rw [List.getElem?_replicate, if_pos (by omega)]
    have h2 := rowC_get h1 (k % 4) (by omega)
    rw [show 4 * (k / 4) + k % 4 = k by omega] at h2
    have h3 : k % 4 < 4 := by omega
    rw [h2]
    unfold madeCells
    rw [Array.toList_map, Array.toList_range, List.getElem?_map, List.getElem?_range (by omega)]
    have hs : (secC noneU).toArray.size = 4 := rfl
    simp only [Option.map_some, hs]
    rw [getElem!_pos _ _ (by rw [hs]; exact h3), List.getElem_toArray, List.getElem?_eq_getElem (by exact h3)]
    rfl
  · rw [List.getElem?_eq_none (l := rowC _) (by rw [hl]; omega), List.getElem?_eq_none]
    unfold madeCells; simp; omega

/-! ### A record's sectors -/
def pieces (n : Nat) : Nat := max 1 ((n + 46) / 47)
def pieceS (t p : Nat) (D : List Nat) (i : Nat) : Sec := ⟨t, p + i, decide (i = pieces D.length - 1), (D.drop (47 * i)).take 47⟩
def splitS (t p : Nat) (D : List Nat) : List Sec := (List.range (pieces D.length)).map (pieceS t p D)
theorem pieces_pos (n : Nat) : 1 ≤ pieces n := by unfold pieces; omega
theorem splitS_length (t p : Nat) (D : List Nat) : (splitS t p D).length = pieces D.length := by simp [splitS]
/-- which error there is -/
def splitE (t p n : Nat) : Int := if t = 0 then 1 else if p + (pieces n - 1) ≤ 4294967295 then 0 else 3

/-- from its row, at a: the slice of the i-th piece -/
def pieceV (a : Option Addr) (N i : Nat) : Value := midS a (min (47 * i + 47) N) (47 * i) (min (47 * i + 47) N)
def pieceU (t p : Nat) (D : List Nat) (a : Option Addr) (i : Nat) : (Sec × Value) := (pieceS t p D i, pieceV a D.length i)
/-- the first k are there -/
def fillR (t p : Nat) (D : List Nat) (a : Option Addr) (k : Nat) : List (Sec × Value) := (List.range (pieces D.length)).map fun i => if i < k then pieceU t p D a i else noneU
theorem fillR_zero (t p : Nat) (D : List Nat) (a : Option Addr) : fillR t p D a 0 = List.replicate (pieces D.length) noneU := by
  unfold fillR
  refine List.ext_getElem (by simp) fun i h1 h2 => by simp
theorem fillR_set (t p : Nat) (D : List Nat) (a : Option Addr) (k : Nat) : (fillR t p D a k).set k (pieceU t p D a k) = fillR t p D a (k + 1) := by
  unfold fillR
  refine List.ext_getElem (by simp) fun i h1 h2 => ?_
  rw [List.getElem_set]
  by_cases h : k = i
  · rw [if_pos h]; subst h; simp
  · rw [if_neg h]
    simp only [List.getElem_map, List.getElem_range]
    by_cases h3 : i < k
    · rw [if_pos h3, if_pos (by omega)]
    · rw [if_neg h3, if_neg (by omega)]
theorem fillR_length (t p : Nat) (D : List Nat) (a : Option Addr) (k : Nat) : (fillR t p D a k).length = pieces D.length := by simp [fillR]
theorem fillR_all (t p : Nat) (D : List Nat) (a : Option Addr) : (fillR t p D a (pieces D.length)).map Prod.fst = splitS t p D := by
  unfold fillR splitS
  refine List.ext_getElem (by simp) fun i h1 h2 => ?_
  simp at h1
  simp [h1, pieceU]

/-! ### s[lo:hi:most] of a slice -/
theorem run_mid3 {P : Program} (w : World) (t e : TypeId) (ht : P.underlying t = some (.slice e)) (hs : (P.info? e).map (·.size) = some 1) (a : Option Addr) (m cap lo hi mx : Nat) (low high most : Option Value)
    (hb : (Instr.sliceBounds true m cap low high most).run P w = .ok (lo, hi, mx) w) :
    (Instr.sliceAt t (.slice a m cap) low high most).run P w = .ok (midS a mx lo hi) w := by
  cases hq : P.info? e with
  | none => simp [hq] at hs
  | some ii =>
    have hss : ii.size = 1 := by simpa [hq] using hs
    have hsz : (sizeOf e).run P w = .ok 1 w := by simp [sizeOf, typeInfo, hq, hss]
    have h1 : (Instr.sliceAt t (.slice a m cap) low high most).run P w = (Instr.slice t (.slice a m cap) low high most).run P w := by simp [Instr.sliceAt, run_underlying ht]
    rw [h1]
    simp only [Instr.slice, Sem.run_bind, run_underlying ht, Result.andThen_ok, hb, hsz, Sem.run_pure, midS, Nat.mul_one]
theorem bounds_lhm {P : Program} (w : World) (m cap lo hi mx : Nat) (h1 : lo ≤ hi) (h2 : hi ≤ mx) (h3 : mx ≤ cap) : (Instr.sliceBounds true m cap (some (.int .i64 (lo : Int))) (some (.int .i64 (hi : Int))) (some (.int .i64 (mx : Int)))).run P w = .ok (lo, hi, mx) w := by
  simp [Instr.sliceBounds, Instr.sliceBound, asIntOf, h1, h2, h3]
theorem run_mid3_op {P : Program} (w : World) {o : Oper} {a : Act} (t : TypeId) (x l h m : Operand) (ho : o.op = .slice t x (some l) (some h) (some m)) (e : TypeId) (ht : P.underlying t = some (.slice e)) (hs : (P.info? e).map (·.size) = some 1)
    (a0 : Option Addr) (n cap lo hi mx : Nat) (hx : a.eval x = .slice a0 n cap) (hl : a.eval l = .int .i64 (lo : Int)) (hh : a.eval h = .int .i64 (hi : Int)) (hm : a.eval m = .int .i64 (mx : Int)) (h1 : lo ≤ hi) (h2 : hi ≤ mx) (h3 : mx ≤ cap) :
    (execOp a.eval o).run P w = .ok (.value (midS a0 mx lo hi)) w := by
  unfold execOp
  simp only [ho, hx, hl, hh, hm, Option.map_some, Sem.run_bind, run_mid3 w t e ht hs a0 n cap lo hi mx _ _ _ (bounds_lhm w n cap lo hi mx h1 h2 h3), Result.andThen_ok, Sem.run_pure]
theorem sizeU8 : (Tryd.prog.info? 5).map (·.size) = some 1 := by kernel_rfl
/-- what a piece of a row of one's own holds -/
theorem liesFrom_mid {B : Nat} {w : World} {v : Value} {bs : List Nat} (h : w.ownsRow B 5 1 v bs.length (u8s bs)) {lo hi : Nat} (h1 : lo ≤ hi) (h2 : hi ≤ bs.length) : ∃ a c, v = .slice a bs.length c ∧ bs.length ≤ c ∧ LiesFrom B w (midS a hi lo hi) ((bs.drop lo).take (hi - lo)) := by
  rcases h.2 with ⟨rfl, h0⟩ | ⟨g, cap, cur, rfl, hB, hg, hnc, _⟩
  · have e : bs = [] := List.length_eq_zero_iff.1 h0
    subst e
    have hh : hi = 0 := by simpa using h2
    subst hh
    have hl : lo = 0 := by omega
    subst hl
    exact ⟨none, 0, rfl, Nat.le_refl _, .inl ⟨rfl, rfl⟩⟩
  · refine ⟨some ⟨g, 0, none⟩, cap, rfl, hnc, ?_⟩
    have hl : ((bs.drop lo).take (hi - lo)).length = hi - lo := by rw [List.length_take, List.length_drop]; omega
    by_cases h3 : lo = hi
    · subst h3
      refine .inr (.inl ⟨⟨g, 0, none⟩, 0, ?_, List.length_eq_zero_iff.1 (by rw [hl]; omega)⟩)
      unfold midS
      rw [if_pos rfl, Nat.sub_self]
    · have hb : BytesAt w g 0 bs := fun j hj => by rw [Nat.zero_add, h.cellAt j (by omega), u8s_getD bs j hj]
      have e : midS (some ⟨g, 0, none⟩) hi lo hi = .slice (some ⟨g, lo, none⟩) (hi - lo) (hi - lo) := by
        unfold midS
        rw [if_neg (by omega), Option.map_some, add_at, Nat.zero_add]
      rw [e]
      have hc := bytesAt_take (hi - lo) (bytesAt_drop lo hb)
      rw [Nat.zero_add] at hc
      exact liesFrom_cut hl hB hc
end Go.Proofs.YtngeilhdambgfaaDoor
