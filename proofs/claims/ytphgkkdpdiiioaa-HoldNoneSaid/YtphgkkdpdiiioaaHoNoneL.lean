/- HoldNone, plainly: seventeen holds, one behind the other. -/
import Derived.Test.YtphgkkdpdiiioaaHoAddY
import Derived.Test.YtphgkkdpdiiioaaHoCov
namespace Go.Proofs.Ytphgkkdpdiiioaa

/-- the k-th -/
def hN (k : Nat) : Hld := ⟨strOf [104, 97 + k], ⟨#[]⟩, (k : Int), (k : Int) + 1⟩
def mN (k : Nat) : List Hld := (List.range (min k 16)).map hN
theorem mN_add : ∀ k : Nat, k < 17 → addE (mN k) (hN k) = (if k < 16 then 0 else 6) ∧ mN (k + 1) = addM (mN k) (hN k) := by
  have h : ∀ k : Nat, k < 17 → addE (mN k) (hN k) = (if k < 16 then 0 else 6) := by decide +kernel
  intro k hk
  refine ⟨h k hk, ?_⟩
  unfold addM
  rw [h k hk]
  unfold mN
  by_cases hk2 : k < 16
  · rw [if_pos (by rw [if_pos hk2]), show min (k + 1) 16 = min k 16 + 1 by omega, List.range_succ, List.map_append, show min k 16 = k by omega]
    rfl
  · rw [if_neg (by rw [if_neg hk2]; decide), show min (k + 1) 16 = min k 16 by omega]
theorem mN_small (k : Nat) : (hN k).name.size = 2 := rfl
def moreN : Hld := ⟨⟨#[109, 111, 114, 101]⟩, ⟨#[]⟩, 0, 5⟩
theorem more_full : addE (mN 17) moreN = 6 := by decide +kernel
theorem some_all {m : List Hld} {s : ByteArray} {f : Int → Int → Bool} (h : ∀ x ∈ m, x.ser = ⟨#[]⟩) : someH m s f = m.any fun x => f x.a x.b := by
  unfold someH
  rw [Bool.eq_iff_iff]
  simp only [List.any_eq_true, Bool.and_eq_true]
  exact ⟨fun ⟨x, hx, h1, h2⟩ => ⟨x, hx, h2⟩, fun ⟨x, hx, h2⟩ => ⟨x, hx, by unfold ofH; rw [h x hx]; rfl, h2⟩⟩
theorem mN_ser (k : Nat) : ∀ x ∈ mN k, x.ser = ⟨#[]⟩ := by
  intro x hx
  unfold mN at hx
  obtain ⟨i, _, rfl⟩ := List.mem_map.1 hx
  rfl
theorem mN_15 (s : ByteArray) : (someH (mN 17) s fun a b => inR a b 15) = true := by rw [some_all (mN_ser 17)]; decide +kernel
theorem mN_16 (s : ByteArray) : (someH (mN 17) s fun a b => inR a b 16) = false := by rw [some_all (mN_ser 17)]; decide +kernel
end Go.Proofs.Ytphgkkdpdiiioaa
