/- Bits as the signs 0 and 1, and as bytes: plain facts of laws that write bits so. -/
import Derived.Test.YtdfefhoihpbldaaDoorBitMore
import Derived.Laws.Concat
namespace Go.Proofs.YtdfefhoihpbldaaDoor
open Go.RowKit

/-- bits as the signs 0 and 1 -/
def sgn (l : List Bool) : List Nat := l.map fun b => 48 + b.toNat
def signsOf (l : List Bool) : ByteArray := strOf (sgn l)
theorem sgn_length (l : List Bool) : (sgn l).length = l.length := by simp [sgn]
theorem signsOf_size (l : List Bool) : (signsOf l).size = l.length := by rw [signsOf, strOf_size, sgn_length]
theorem signsOf_append (a b : List Bool) : signsOf (a ++ b) = signsOf a ++ signsOf b := by
  unfold signsOf sgn; rw [List.map_append, strOf_append]

theorem numBits_cons (x k : Nat) : numBits x (k + 1) = [decide (x / 2 ^ k % 2 = 1)] ++ numBits x k := by
  unfold numBits
  rw [List.range_succ_eq_map, List.map_cons, List.map_map]
  simp only [List.singleton_append, Nat.add_sub_cancel, Nat.sub_zero]
  congr 1
  apply List.map_congr_left
  intro i _
  simp only [Function.comp]
  rw [show k - (i + 1) = k - 1 - i by omega]

theorem sgn_get (l : List Bool) (q : Nat) (h : q < l.length) : (strOf (sgn l)).data[q]? = some (UInt8.ofNat (48 + l[q].toNat)) := by
  simp [strOf, sgn, h]

theorem next_put (l : List Bool) (b : Bool) (h : l.length % 8 = 0) : (u8s (packB l) ++ [Value.int .u8 0]).set (l.length / 8) (Value.int .u8 (lastB l b : Nat)) = u8s (packB (l ++ [b])) := by
  rw [bytesN_grow l h, bytesN_put]
theorem next_set (l : List Bool) (b : Bool) (h : l.length % 8 ≠ 0) : (u8s (packB l)).set (l.length / 8) (Value.int .u8 (lastB l b : Nat)) = u8s (packB (l ++ [b])) := by
  rw [bytesN_same l h, bytesN_put]
theorem next_keep (l : List Bool) : u8s (bytesN l (l.length / 8 + 1)) = u8s (packB (l ++ [false])) := by
  rw [← bytesN_put]
  symm
  have h1 : lastB l false = byteAt l (l.length / 8) := by simp [lastB]
  rw [h1]
  have h2 : (u8s (bytesN l (l.length / 8 + 1)))[l.length / 8]? = some (Value.int .u8 ((byteAt l (l.length / 8) : Nat) : Int)) := by
    rw [u8s_get, bytesN_get _ _ _ (by omega)]; rfl
  obtain ⟨hlt, he⟩ := List.getElem?_eq_some_iff.1 h2
  rw [← he]
  exact List.set_getElem_self hlt

theorem bytesN_grow_at {pre : List Bool} {q : Nat} (hq : pre.length = q) (h : q % 8 = 0) : u8s (packB pre) ++ [Value.int .u8 0] = u8s (bytesN pre (q / 8 + 1)) := by
  subst hq; exact bytesN_grow pre h
theorem last_one {pre : List Bool} {q : Nat} (hq : pre.length = q) (h : q % 8 = 0) : ((lastB pre true : Nat) : Int) = 128 := by
  subst hq
  have h1 := byteAt_low pre
  rw [h] at h1
  have h2 := byteAt_lt pre (pre.length / 8)
  simp only [lastB, h]
  simp
  omega
theorem u8s_byte {pre : List Bool} {q : Nat} (hq : pre.length = q) (h : q % 8 ≠ 0) : (u8s (packB pre))[q / 8]? = some (.int .u8 ((byteAt pre (q / 8) : Nat) : Int)) := by
  subst hq
  rw [bytesN_same pre h, u8s_get, bytesN_get _ _ _ (by omega)]; rfl
theorem last_true {pre : List Bool} {q : Nat} (hq : pre.length = q) : lastB pre true = byteAt pre (q / 8) + 2 ^ (7 - q % 8) := by
  subst hq; simp [lastB]

theorem shift_val {old q : Nat} (h : old + 2 ^ (7 - q % 8) < 256) : (((old : Int) + 128 / 2 ^ (q % 8)) % 256) = ((old + 2 ^ (7 - q % 8) : Nat) : Int) := by
  have hm : q % 8 < 8 := Nat.mod_lt _ (by omega)
  generalize q % 8 = m at *
  have h1 : m = 0 ∨ m = 1 ∨ m = 2 ∨ m = 3 ∨ m = 4 ∨ m = 5 ∨ m = 6 ∨ m = 7 := by omega
  rcases h1 with h1 | h1 | h1 | h1 | h1 | h1 | h1 | h1 <;> subst h1 <;> simp at h ⊢ <;> omega
end Go.Proofs.YtdfefhoihpbldaaDoor
