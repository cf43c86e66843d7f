/- What law 17's own functions tell: right, find. -/
import Derived.Test.YtphgkkdpdiiioaaHoAll
namespace Go.Proofs.Ytphgkkdpdiiioaa
open Go.RowKit

set_option maxHeartbeats 4000000 in
theorem holright_any (w : World) (a b : Int) :
    Calls Try.prog 10 #[.agg #[.int .i64 a, .int .i64 b]] w fun e w' => e = .returned (.bool (rightR a b)) ∧ Below w.heap.size w w' := by
  have HR : Hid (rightR a b = (decide (0 ≤ a) && decide (a < b) && decide (b ≤ 1099511627777))) := Lib.hid rfl
  obtain ⟨t0, h0⟩ : ∃ t, t = decide (0 ≤ a) := ⟨_, rfl⟩
  obtain ⟨t1, h1⟩ : ∃ t, t = decide (a < b) := ⟨_, rfl⟩
  obtain ⟨t2, h2⟩ : ∃ t, t = decide (b ≤ 1099511627777) := ⟨_, rfl⟩
  rw [← h0, ← h1, ← h2] at HR
  replace h0 := h0.symm
  replace h1 := h1.symm
  replace h2 := h2.symm
  cases t0 with
  | false =>
    go_enter Try.func10, Try.ntmps10
    repeat (first | go_values | go_skip | go_guarded | go_step | go_upon)
    go_ret
    exact ⟨by rw [HR.out]; rfl, (Below.refl _ _).alloc (Nat.le_refl _) _⟩
  | true =>
    cases t1 with
    | false =>
      go_enter Try.func10, Try.ntmps10
      repeat (first | go_values | go_skip | go_guarded | go_step | go_upon)
      go_ret
      exact ⟨by rw [HR.out]; rfl, (Below.refl _ _).alloc (Nat.le_refl _) _⟩
    | true =>
      go_enter Try.func10, Try.ntmps10
      repeat (first | go_values | go_skip | go_guarded | go_step | go_upon)
      go_ret
      exact ⟨by rw [HR.out]; rfl, (Below.refl _ _).alloc (Nat.le_refl _) _⟩
/-- where a name is: -1: nowhere -/
def findH (m : List Hld) (n : ByteArray) : Int := if hasH m n = true then (m.findIdx fun h => decide (h.name = n) : Nat) else -1
theorem findH_at {m : List Hld} {n : ByteArray} {k : Nat} {x : Hld} (hx : m[k]? = some x) (hn : x.name = n) (hb : ∀ i y, i < k → m[i]? = some y → y.name ≠ n) : findH m n = k := by
  obtain ⟨hk, rfl⟩ := List.getElem?_eq_some_iff.1 hx
  have h1 : hasH m n = true := hasH_true.2 ⟨_, List.getElem_mem hk, hn⟩
  have h2 : (m.findIdx fun h => decide (h.name = n)) = k := by
    rw [List.findIdx_eq hk]
    exact ⟨by simp [hn], fun j hj => by simpa using hb j _ hj (List.getElem?_eq_getElem (by omega))⟩
  unfold findH
  rw [if_pos h1, h2]
theorem findH_none {m : List Hld} {n : ByteArray} (hb : ∀ i y, i < m.length → m[i]? = some y → y.name ≠ n) : findH m n = -1 := by
  have h1 : hasH m n = false := hasH_false.2 fun h hh => by
    obtain ⟨i, hi, rfl⟩ := List.mem_iff_getElem.1 hh
    exact hb i _ hi (List.getElem?_eq_getElem hi)
  unfold findH
  rw [h1]; rfl
theorem findH_has {m : List Hld} {n : ByteArray} (h : hasH m n = true) : ∃ (k : Nat) (x : Hld), m[k]? = some x ∧ x.name = n ∧ findH m n = (k : Int) := by
  have hk : (m.findIdx fun h => decide (h.name = n)) < m.length := List.findIdx_lt_length.2 (by obtain ⟨x, hx, hn⟩ := hasH_true.1 h; exact ⟨x, hx, by simpa using hn⟩)
  refine ⟨_, m[m.findIdx fun h => decide (h.name = n)], List.getElem?_eq_getElem hk, ?_, by unfold findH; rw [if_pos h]⟩
  have := List.findIdx_getElem (w := hk)
  simpa using this
theorem findH_no {m : List Hld} {n : ByteArray} (h : hasH m n = false) : findH m n = -1 := by unfold findH; rw [h]; rfl
set_option maxHeartbeats 8000000 in
theorem hofind_any {w : World} {v : Value} {m : List Hld} (n : ByteArray) (hl : HLies w v m) (hm : m.length ≤ 1000) :
    Calls Try.prog 8 #[v, .string n] w fun e w' => e = .returned (.int .i64 (findH m n)) ∧ w' = w := by
  obtain ⟨a, b, off, c, rfl, ha, hcells⟩ := hl
  have HA := Lib.hid ha
  have HC := Lib.hid hcells
  obtain ⟨L, hL⟩ : ∃ L, L = m.length := ⟨_, rfl⟩
  have HL := Lib.hid hL
  have hL2 : L ≤ 1000 := by omega
  rw [← hL]
  clear ha hcells hL hm
  go_enter Try.func8, Try.ntmps8
  go_wp2_with fail
  go_loop [8] (fun vi => ∃ k : Nat, k ≤ L ∧ vi = .int .i64 (k : Int) ∧ Hid (∀ i y, i < k → m[i]? = some y → y.name ≠ n)) (fun vi => L - (intOf vi).toNat)
  case atStart => exact ⟨0, Nat.zero_le _, rfl, Lib.hid (fun i y hi => by omega)⟩
  case round =>
    obtain ⟨k, hk, rfl, hh⟩ := hrel
    by_cases hlt : k < L
    · have hlt2 : k < m.length := by rw [← HL.out]; exact hlt
      have ea := HA.out (by rintro rfl; simp at hlt2)
      subst ea
      obtain ⟨p, hp⟩ : ∃ p, m[k]? = some p := ⟨_, List.getElem?_eq_getElem hlt2⟩
      have x0 := HC.out k p hp 0 _ rfl
      rw [Nat.add_zero] at x0
      have HP := Lib.hid hp
      clear hp hlt2
      have tq := text_beq p.name n
      by_cases hn : p.name = n
      · rw [decide_eq_true hn] at tq
        have HF := Lib.hid (findH_at HP.out hn hh.out)
        clear hn
        go_wp2
        go_ret
        exact ⟨by rw [HF.out]; rfl, rfl⟩
      · rw [decide_eq_false hn] at tq
        have HN : Hid (∀ i y, i < k + 1 → m[i]? = some y → y.name ≠ n) := Lib.hid fun i y hi hy => by
          by_cases e : i = k
          · subst e; rw [HP.out] at hy; injection hy with hy; rw [← hy]; exact hn
          · exact hh.out i y (by omega) hy
        clear hn
        go_wp2
        exact ⟨⟨k + 1, by omega, by go_num, HN⟩, by simp [intOf]; omega⟩
    · obtain rfl : k = L := by omega
      have HF := Lib.hid (findH_none (m := m) (n := n) (fun i y hi => hh.out i y (by rw [HL.out]; exact hi)))
      go_wp2
      go_ret
      exact ⟨by rw [HF.out]; rfl, rfl⟩
end Go.Proofs.Ytphgkkdpdiiioaa
