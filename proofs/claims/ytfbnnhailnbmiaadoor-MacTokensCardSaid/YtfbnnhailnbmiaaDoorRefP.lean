/- The first primes, walked. -/
import Derived.Test.YtfbnnhailnbmiaaDoorRefC2
import Derived.Maps.AppendAt
import Derived.Deep.AppendLies
namespace Go.Proofs.YtfbnnhailnbmiaaDoor
open Go.RowKit

def u64s (l : List Nat) : List Value := l.map fun (x : Nat) => Value.int .u64 (x : Int)
theorem infoU64 : (Tryd.prog.info? 52).map (fun i => (i.zero, i.size, i.bytes)) = some (some (.int .u64 0), 1, 8) := by kernel_rfl
def prB (p : Nat) : List Nat := (List.range p).filter isP
theorem prB_lt : ∀ p, p < 312 → (prB p).length < 64 := by decide +kernel
theorem prB_succ (p : Nat) : prB (p + 1) = if isP p then prB p ++ [p] else prB p := by
  unfold prB
  rw [List.range_succ, List.filter_append]
  by_cases h : isP p <;> simp [h]

set_option maxHeartbeats 4000000 in
theorem primes_any (w : World) :
    Calls Tryd.prog 24 #[.int .i64 64] w fun e w' => ∃ v, e = .returned v ∧ w'.ownsRow w.heap.size 52 1 v 64 (u64s primesL) ∧ Below w.heap.size w w' := by
  obtain ⟨i0, hi, hz0, hz1, hz2⟩ : ∃ i, Tryd.prog.info? 52 = some i ∧ i.zero = some (.int .u64 0) ∧ i.size = 1 ∧ i.bytes = 8 := by
    have h := infoU64
    cases hi : Tryd.prog.info? 52 with
    | none => rw [hi] at h; simp at h
    | some i => rw [hi] at h; simp at h; exact ⟨i, rfl, h.1, h.2.1, h.2.2⟩
  go_enter Tryd.func24, Tryd.ntmps24
  go_wp2
  go_loopw [3, 4] (fun v c wr => ∃ p : Nat, 2 ≤ p ∧ p ≤ 312 ∧ c = .int .u64 p ∧ wr.ownsRow w.heap.size 52 1 v (prB p).length (u64s (prB p)) ∧ Below w.heap.size w wr) (fun _ c _ => 312 - (intOf c).toNat)
  case atStart => exact ⟨2, by omega, by omega, rfl, World.ownsRow_nil _ _ _ _, Below.refl _ _⟩
  case round =>
    obtain ⟨p, hp2, hp, rfl, hown, hbw⟩ := hrel
    have HO := Lib.hid hown
    have HBW := Lib.hid hbw
    have hzw := hbw.size
    obtain ⟨a, c, rfl⟩ := own_slice hown
    clear hbw hown
    by_cases hlt : p < 312
    · have hc := prB_lt p hlt
      have t1 : decide (((prB p).length : Int) < 64) = true := by simp only [decide_eq_true_eq]; omega
      have e1 : IntKind.u64.wrap ((p : Int) + 1) = ((p + 1 : Nat) : Int) := by rw [IntKind.wrap_u64]; omega
      obtain ⟨b, hb⟩ : ∃ b, b = isP p := ⟨_, rfl⟩
      have HS := Lib.hid (prB_succ p)
      rw [← hb] at HS
      have HBP := Lib.hid hb
      clear hb
      cases b
      · have HS2 : Hid (prB (p + 1) = prB p) := Lib.hid (by rw [HS.out]; rfl)
        go_wp2_with (go_at_call 34; refine (prime_any hp2 (by omega) _).mono ?_; rw [← HBP.out]; rintro e w' ⟨rfl, rfl⟩)
        go_roundw
        case rel => exact ⟨p + 1, by omega, by omega, by go_num, by rw [HS2.out]; exact HO.out, HBW.out⟩
        case measure => simp [intOf]; omega
      · have HS2 : Hid (prB (p + 1) = prB p ++ [p]) := Lib.hid (by rw [HS.out]; rfl)
        go_wp2_with (first | (go_at_call 34; refine (prime_any hp2 (by omega) _).mono ?_; rw [← HBP.out]; rintro e w' ⟨rfl, rfl⟩) | (at_builtin; refine wpList_append_own_at _ rfl (.tmp 13) (.tmp 15) 47 rfl w.heap.size 52 i0 (.int .u64 0) 1 8 Tryd.underlying47 hi hz0 hz1 hz2 rfl (by decide) _ _ _ rfl (HO.out.alloc _) ⟨wr.heap.size, 0, none⟩ 1 1 [.int .u64 (p : Int)] rfl rfl (World.news_of_block (heap_alloc_new wr _)) (by simp [Value.oneCell']) (by unfold maxLen; omega) (by omega) (by simp; omega) ?_; intro v5 W5 hown5 hgrow5 _ _; have HO5 := Lib.hid hown5; have HB5 := Lib.hid ((HBW.out.alloc hzw _).grown hgrow5 (by simp; omega) (fun k hk => (HO.out.lt k hk).1)); clear hown5 hgrow5))
        go_roundw
        case rel => exact ⟨p + 1, by omega, by omega, by go_num, by rw [HS2.out, List.length_append, u64s, List.map_append]; exact HO5.out, HB5.out⟩
        case measure => simp [intOf]; omega
    · obtain rfl : p = 312 := by omega
      have hl : (prB 312).length = 64 := primes_len
      have t1 : decide (((prB 312).length : Int) < 64) = false := by rw [hl]; rfl
      rw [hl] at HO
      have HL := Lib.hid hl
      rw [hl]
      clear hl t1
      go_wp2
      go_ret
      exact ⟨_, rfl, HO.out, HBW.out⟩
end Go.Proofs.YtfbnnhailnbmiaaDoor
