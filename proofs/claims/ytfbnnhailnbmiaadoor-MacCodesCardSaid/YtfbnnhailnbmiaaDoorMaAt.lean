/- Package mac: a row's byte at a place; are two rows the same. -/
import Derived.Test.YtfbnnhailnbmiaaDoorOpenBytes
namespace Go.Proofs.YtfbnnhailnbmiaaDoor
open Go.RowKit

theorem lies_form {w : World} {v : Value} {bs : List Nat} (h : Lies w v bs) : ∃ a c, v = .slice a bs.length c ∧ (bs ≠ [] → ∃ b off, a = some ⟨b, off, none⟩ ∧ BytesAt w b off bs) := by
  rcases h with ⟨rfl, rfl⟩ | ⟨ad, c, rfl, rfl⟩ | ⟨b, off, c, rfl, hb⟩
  · exact ⟨_, _, rfl, fun h => absurd rfl h⟩
  · exact ⟨_, _, rfl, fun h => absurd rfl h⟩
  · exact ⟨_, _, rfl, fun _ => ⟨_, _, rfl, hb⟩⟩

set_option maxHeartbeats 2000000 in
theorem at_any {w : World} {v : Value} {bs : List Nat} (h : Lies w v bs) (i : Nat) :
    Calls Tryd.prog 19 #[v, .int .i64 (i : Int)] w fun e w' => e = .returned (.int .u8 ((bs.getD i 0 : Nat) : Int)) ∧ w' = w := by
  obtain ⟨a, c, rfl, hb⟩ := lies_form h
  clear h
  by_cases hi : i < bs.length
  · obtain ⟨b, off, rfl, hby⟩ := hb (fun e => by rw [e] at hi; simp at hi)
    have c1 := hby i hi
    have t1 : decide ((i : Int) < (bs.length : Int)) = true := by simp only [decide_eq_true_eq]; omega
    have ti : (i : Int) < (bs.length : Int) := by omega
    clear hby hb
    obtain ⟨n, hn⟩ : ∃ n, n = bs.length := ⟨_, rfl⟩
    rw [← hn] at hi t1 ti ⊢
    obtain ⟨x, hx⟩ : ∃ x, x = bs.getD i 0 := ⟨_, rfl⟩
    rw [← hx] at c1 ⊢
    clear hx hn
    go_enter Tryd.func19, Tryd.ntmps19
    go_wp2
    go_ret
    exact ⟨rfl, rfl⟩
  · have t1 : decide ((i : Int) < (bs.length : Int)) = false := by simp only [decide_eq_false_iff_not]; omega
    have e : bs.getD i 0 = 0 := by simp [List.getD, List.getElem?_eq_none (Nat.le_of_not_lt hi)]
    rw [e]
    obtain ⟨n, hn⟩ : ∃ n, n = bs.length := ⟨_, rfl⟩
    rw [← hn] at hi t1 ⊢
    clear hb hn e
    go_enter Tryd.func19, Tryd.ntmps19
    go_wp2
    go_ret
    exact ⟨rfl, rfl⟩

theorem getD_byte {l : List Nat} (hb : ∀ x ∈ l, x < 256) (k : Nat) : l.getD k 0 < 256 := by
  by_cases h : k < l.length
  · simp [List.getD, h]; exact hb _ (List.getElem_mem h)
  · simp [List.getD, List.getElem?_eq_none (Nat.le_of_not_lt h)]
/-- rows of one length, the same at each place -/
theorem same_list {a b : List Nat} (hn : a.length = b.length) (h : ∀ j, j < max a.length b.length → a.getD j 0 = b.getD j 0) : a = b := by
  refine List.ext_getElem hn fun j h1 h2 => ?_
  have := h j (by omega)
  simpa [List.getD, h1, h2] using this
end Go.Proofs.YtfbnnhailnbmiaaDoor
