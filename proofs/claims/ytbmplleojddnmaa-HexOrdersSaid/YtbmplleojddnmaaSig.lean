/- Bytes as signs: over plain numbers; a sign of sixteen, taken. No function of the program. -/
import Derived.Test.YtbmplleojddnmaaGen
import Derived.Great.BuildSlice
namespace Go.Proofs.Ytbmplleojddnmaa
open Go.RowKit

def signB (n : Nat) : Nat := if n < 10 then 48 + n else 87 + n
/-- the signs of bytes -/
def signsB (l : List Nat) : List Nat := l.flatMap fun x => [signB (x / 16), signB (x % 16)]
theorem signsB_len (l : List Nat) : (signsB l).length = 2 * l.length := by
  induction l with
  | nil => rfl
  | cons x l ih => rw [signsB, List.flatMap_cons, List.length_append, ← signsB, ih]; simp; omega
theorem signsB_snoc (l : List Nat) (x : Nat) : signsB (l ++ [x]) = signsB l ++ [signB (x / 16), signB (x % 16)] := by simp [signsB]
theorem sign_lt {n : Nat} (h : n < 16) : signB n < 256 ∧ signB n ≠ 46 := by unfold signB; split <;> omega
theorem signsB_lt {l : List Nat} (h : ∀ x ∈ l, x < 256) : ∀ y ∈ signsB l, y < 256 ∧ y ≠ 46 := by
  intro y hy
  obtain ⟨x, hx, hy⟩ := List.mem_flatMap.1 hy
  have := h x hx
  rcases List.mem_cons.1 hy with rfl | hy
  · exact sign_lt (by omega)
  · rw [List.mem_singleton.1 hy]; exact sign_lt (by omega)
def hexT : ByteArray := ⟨#[48, 49, 50, 51, 52, 53, 54, 55, 56, 57, 97, 98, 99, 100, 101, 102]⟩
theorem hex_at : ∀ n, n < 16 → (hexT.data[n]?).map UInt8.toNat = some (signB n) := by decide +kernel
/-- a sign of sixteen -/
theorem run_hex_op (w : World) {o : Oper} {a : Act} (x : Operand) (ho : o.op = .index 9 (.const (.string ⟨#[48, 49, 50, 51, 52, 53, 54, 55, 56, 57, 97, 98, 99, 100, 101, 102]⟩)) x) (n : Nat) (hx : a.eval x = .int .u8 (n : Int)) (h : n < 16) :
    (execOp a.eval o).run Try.prog w = .ok (.value (.int .u8 ((signB n : Nat) : Int))) w := by
  have hr : (Instr.index 9 (.string hexT) (.int .u8 (n : Int))).run Try.prog w = .ok (.int .u8 ((signB n : Nat) : Int)) w := by
    have hs : hexT.size = 16 := rfl
    have hg := hex_at n h
    have hn : n < hexT.data.size := h
    rw [Array.getElem?_eq_getElem hn, Option.map_some] at hg
    rw [run_index_string w _ _ _ _ Try.underlying9]
    rw [dif_pos (by rw [hs]; omega)]
    have e : hexT[(n : Int).toNat]'(by rw [hs]; omega) = hexT.data[n] := rfl
    rw [e, Option.some.inj hg]
  unfold execOp
  have hc : a.eval (.const (.string hexT)) = .string hexT := rfl
  simp only [ho, hx, Sem.run_bind, Sem.run_pure]
  rw [show (⟨#[48, 49, 50, 51, 52, 53, 54, 55, 56, 57, 97, 98, 99, 100, 101, 102]⟩ : ByteArray) = hexT from rfl, hc, hr]
  rfl
theorem fill_two (z : Array Value) (a b : Int) : Instr.fill (fun i => some (i * 1, 1)) ((Array.range (2 * 1)).map (z[· % z.size]!)) [(0, .int .u8 a), (1, .int .u8 b)] = some #[.int .u8 a, .int .u8 b] :=
  Great.fill_flat [Value.int .u8 a, Value.int .u8 b] ((Array.range (2 * 1)).map (z[· % z.size]!)) (fun v hv => by rcases List.mem_cons.1 hv with rfl | hv; rfl; rw [List.mem_singleton.1 hv]; rfl) (by simp)
theorem step_buildSlice {P : Program} {ops : Array Oper} {o : Oper} {a : Act} {w : World} {K : Act → World → Prop} {Q : Exit → Act → World → Prop} {E : Prop} (hgd : o.guard = none) (t e : TypeId) (len : Nat) (parts : Array (Nat × Operand)) (ho : o.op = .buildSlice t len parts)
    (cells : Array Value) (ie : TypeInfo) (z : Value)
    (hu : P.underlying t = some (.slice e)) (hie : P.info? e = some ie) (hz : ie.zero = some z) (hsmall : ¬ len * ie.size > 2 ^ 24) (hpos : ¬ len * ie.size = 0)
    (hf : Instr.fill (fun i => some (i * ie.size, ie.size)) ((Array.range (len * ie.size)).map (z.cells[· % z.cells.size]!)) (parts.map fun (i, x) => (i, a.eval x)).toList = some cells)
    (h : K (a.put o.dst (.slice (some ⟨w.heap.size, 0, none⟩) len len)) (w.alloc (.cells cells e))) : if Region.wanted o (yielded ops a.tmps) = true then Oper.wp P o a w K Q else E := by
  rw [if_pos (by simp [Region.wanted, hgd])]
  exact wp_buildSlice t e len parts ho cells ie z hu hie hz hsmall hpos hf h
theorem hex_cuts : ∀ p, p < 16 → (hexT.extract p (p + 1)).data.toList.map UInt8.toNat = [signB p] := by decide +kernel
theorem hex_cut (p : Nat) (h : p < 16) : hexT.extract p (p + 1) = strOf [signB p] := by
  apply ords_inj
  rw [ords_strOf (fun x hx => by rw [List.mem_singleton.1 hx]; exact (sign_lt h).1)]
  exact hex_cuts p h
end Go.Proofs.Ytbmplleojddnmaa
