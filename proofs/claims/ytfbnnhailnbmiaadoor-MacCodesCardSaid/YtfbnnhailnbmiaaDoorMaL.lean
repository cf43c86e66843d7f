/- Codes and tokens, over plain numbers. -/
import Derived.Test.YtfbnnhailnbmiaaDoorSha
namespace Go.Proofs.YtfbnnhailnbmiaaDoor

/-- a key as a block of 64 bytes -/
def keyB (key : List Nat) : List Nat := let k := if 64 < key.length then digest key else key; k ++ List.replicate (64 - k.length) 0
def xorB (x : Nat) (l : List Nat) : List Nat := l.map (· ^^^ x)
/-- the code of a key and bytes -/
def codeB (key bs : List Nat) : List Nat := digest (xorB 92 (keyB key) ++ digest (xorB 54 (keyB key) ++ bs))
def signB (n : Nat) : Nat := if n < 10 then 48 + n else 87 + n
/-- the signs of bytes -/
def signsB (l : List Nat) : List Nat := l.flatMap fun x => [signB (x / 16), signB (x % 16)]
def endB (key name : List Nat) : List Nat := signsB ((codeB key name).take 16)
def tokenB (key name : List Nat) : List Nat := name ++ 46 :: endB key name

theorem dig_len (bs : List Nat) : (digest bs).length = 32 := by unfold digest tellB; rw [List.length_map, List.length_range]
theorem dig_lt (bs : List Nat) : ∀ x ∈ digest bs, x < 256 := by
  intro x hx
  unfold digest tellB at hx
  obtain ⟨i, _, rfl⟩ := List.mem_map.1 hx
  exact Nat.mod_lt _ (by decide)
theorem keyB_len (key : List Nat) : (keyB key).length = 64 := by
  unfold keyB
  by_cases h : 64 < key.length
  · simp [h, dig_len]
  · simp [h]; omega
theorem keyB_lt {key : List Nat} (hk : ∀ x ∈ key, x < 256) : ∀ x ∈ keyB key, x < 256 := by
  intro x hx
  unfold keyB at hx
  rcases List.mem_append.1 hx with h | h
  · by_cases h1 : 64 < key.length
    · rw [if_pos h1] at h; exact dig_lt _ x h
    · rw [if_neg h1] at h; exact hk x h
  · rw [(List.mem_replicate.1 h).2]; decide
theorem xorB_len (x : Nat) (l : List Nat) : (xorB x l).length = l.length := by simp [xorB]
theorem xorB_lt {x : Nat} {l : List Nat} (hx : x < 256) (h : ∀ y ∈ l, y < 256) : ∀ y ∈ xorB x l, y < 256 := by
  intro y hy
  obtain ⟨z, hz, rfl⟩ := List.mem_map.1 hy
  exact Nat.xor_lt_two_pow (n := 8) (h z hz) hx
theorem codeB_len (key bs : List Nat) : (codeB key bs).length = 32 := dig_len _
theorem codeB_lt (key bs : List Nat) : ∀ x ∈ codeB key bs, x < 256 := dig_lt _
theorem signsB_len (l : List Nat) : (signsB l).length = 2 * l.length := by
  induction l with
  | nil => rfl
  | cons x l ih => rw [signsB, List.flatMap_cons, List.length_append, ← signsB, ih]; simp; omega
theorem signsB_snoc (l : List Nat) (x : Nat) : signsB (l ++ [x]) = signsB l ++ [signB (x / 16), signB (x % 16)] := by simp [signsB]
theorem endB_len (key name : List Nat) : (endB key name).length = 32 := by unfold endB; rw [signsB_len, List.length_take, codeB_len]; rfl
theorem sign_lt {n : Nat} (h : n < 16) : signB n < 256 ∧ signB n ≠ 46 := by unfold signB; split <;> omega
theorem signsB_lt {l : List Nat} (h : ∀ x ∈ l, x < 256) : ∀ y ∈ signsB l, y < 256 ∧ y ≠ 46 := by
  intro y hy
  obtain ⟨x, hx, hy⟩ := List.mem_flatMap.1 hy
  have := h x hx
  rcases List.mem_cons.1 hy with rfl | hy
  · exact sign_lt (by omega)
  · rw [List.mem_singleton.1 hy]; exact sign_lt (by omega)
theorem endB_lt (key name : List Nat) : ∀ y ∈ endB key name, y < 256 := fun y hy => (signsB_lt (fun x hx => codeB_lt key name x (List.mem_of_mem_take hx)) y hy).1
theorem endB_dot (key name : List Nat) : 46 ∉ endB key name := fun hy => (signsB_lt (fun x hx => codeB_lt key name x (List.mem_of_mem_take hx)) 46 hy).2 rfl
/-- the last dot is one -/
theorem dot_once {a b a' b' : List Nat} (h : a ++ 46 :: b = a' ++ 46 :: b') (hb : 46 ∉ b) (hb' : 46 ∉ b') : a = a' ∧ b = b' := by
  rcases List.append_eq_append_iff.1 h with ⟨c, h1, h2⟩ | ⟨c, h1, h2⟩
  · cases c with
    | nil => simp at h1 h2; exact ⟨h1.symm, h2⟩
    | cons x c =>
      rw [List.cons_append] at h2
      obtain rfl := (List.cons.inj h2).1
      exact absurd (show 46 ∈ b by have h3 := (List.cons.inj h2).2; rw [h3]; simp) hb
  · cases c with
    | nil => simp at h1 h2; exact ⟨h1, h2.symm⟩
    | cons x c =>
      rw [List.cons_append] at h2
      obtain rfl := (List.cons.inj h2).1
      exact absurd (show 46 ∈ b' by have h3 := (List.cons.inj h2).2; rw [h3]; simp) hb'
theorem tokenB_len (key name : List Nat) : (tokenB key name).length = name.length + 33 := by simp [tokenB, endB_len]

theorem jefe : (codeB [74, 101, 102, 101] [119, 104, 97, 116, 32, 100, 111, 32, 121, 97, 32, 119, 97, 110, 116, 32, 102, 111, 114, 32, 110, 111, 116, 104, 105, 110, 103, 63]).getD 0 0 = 91 ∧ (codeB [74, 101, 102, 101] [119, 104, 97, 116, 32, 100, 111, 32, 121, 97, 32, 119, 97, 110, 116, 32, 102, 111, 114, 32, 110, 111, 116, 104, 105, 110, 103, 63]).getD 1 0 = 220 ∧ (codeB [74, 101, 102, 101] [119, 104, 97, 116, 32, 100, 111, 32, 121, 97, 32, 119, 97, 110, 116, 32, 102, 111, 114, 32, 110, 111, 116, 104, 105, 110, 103, 63]).getD 31 0 = 67 := by decide +kernel
end Go.Proofs.YtfbnnhailnbmiaaDoor
