/- Package strings: a text cut at its first /. -/
import Derived.Test.YtnaepipdlcineaaNmL
import Derived.Lib.Bytealg
import Derived.Deep.Draws
namespace Go.Proofs.Ytnaepipdlcineaa
open Go.RowKit

/-- the first place of a byte: none; or a place ahead of which it doesn't stand -/
theorem first_at : ∀ (l : List UInt8) (c : UInt8), (c ∉ l ∧ Lib.indexByte l c = -1) ∨ ∃ a b, l = a ++ c :: b ∧ c ∉ a ∧ Lib.indexByte l c = (a.length : Int)
  | [], c => .inl ⟨by simp, rfl⟩
  | x :: l, c => by
    by_cases hx : x = c
    · subst hx
      exact .inr ⟨[], l, rfl, by simp, by unfold Lib.indexByte; simp⟩
    · have hb : (x == c) = false := beq_eq_false_iff_ne.2 hx
      rcases first_at l c with ⟨h1, h2⟩ | ⟨a, b, h1, h2, h3⟩
      · refine .inl ⟨by simp [h1]; exact fun e => hx e.symm, ?_⟩
        unfold Lib.indexByte
        simp [hb, h2]
      · refine .inr ⟨x :: a, b, by rw [h1]; rfl, by simp [h2]; exact fun e => hx e.symm, ?_⟩
        unfold Lib.indexByte
        rw [h3]
        simp [hb]
theorem mem_ords {l : List UInt8} {c : UInt8} : c ∈ l ↔ c.toNat ∈ l.map UInt8.toNat := by
  constructor
  · exact fun h => List.mem_map.2 ⟨c, h, rfl⟩
  · intro h
    obtain ⟨x, hx, e⟩ := List.mem_map.1 h
    rwa [← UInt8.toNat_inj.1 e]
/-- where the first / stands -/
def SlashAt (l : List Nat) (r : Int) : Prop := (47 ∉ l ∧ r = -1) ∨ ∃ a b, l = a ++ 47 :: b ∧ 47 ∉ a ∧ r = (a.length : Int)
theorem slash_at (s : ByteArray) : SlashAt (ordsOf s) (Lib.indexByte s.data.toList 47) := by
  unfold ordsOf
  rcases first_at s.data.toList 47 with ⟨h1, h2⟩ | ⟨a, b, h1, h2, h3⟩
  · exact .inl ⟨fun h => h1 (mem_ords.2 h), h2⟩
  · exact .inr ⟨a.map UInt8.toNat, b.map UInt8.toNat, by rw [h1]; simp, fun h => h2 (mem_ords.2 h), by rw [h3]; simp⟩
set_option maxHeartbeats 2000000 in
theorem nmbyte_any (w : World) (s : ByteArray) :
    Calls Try.prog 26 #[.string s, .int .u8 47] w fun e w' => (∃ r : Int, e = .returned (.int .i64 r) ∧ SlashAt (ordsOf s) r) ∧ w' = w := by
  go_enter Try.func26, Try.ntmps26
  go_wp2
  rw [run_callFunc_extern Try.func30 (by kernel_rfl) (by kernel_rfl) (by kernel_rfl) (e := Extern.BytealgIndexByte.indexByte) (by kernel_rfl), Lib.run_indexByteString]
  simp only [Result.andThen]
  rw [Oper.upon_value]
  go_wp2
  go_ret
  exact ⟨⟨_, rfl, slash_at s⟩, rfl⟩
set_option maxHeartbeats 4000000 in
set_option maxRecDepth 100000 in
theorem nmindex_any (w : World) (s : ByteArray) (hs : s.size ≤ 1000000000000) :
    Calls Try.prog 24 #[.string s, .string ⟨#[47]⟩] w fun e w' => (∃ r : Int, e = .returned (.int .i64 r) ∧ SlashAt (ordsOf s) r) ∧ w' = w := by
  have HB := Lib.hid (nmbyte_any w s)
  by_cases h1 : s = ⟨#[47]⟩
  · subst h1
    go_enter Try.func24, Try.ntmps24
    repeat (first | go_values | go_skip | go_guarded | go_step | go_upon)
    go_ret
    exact ⟨⟨0, rfl, .inr ⟨[], [], by decide +kernel, by simp, rfl⟩⟩, rfl⟩
  · have t1 : (([47] : List UInt8) == s.toList) = false := by
      rw [show ([47] : List UInt8) = ByteArray.toList ⟨#[47]⟩ by decide +kernel, text_beq]
      exact decide_eq_false fun e => h1 e.symm
    go_enter Try.func24, Try.ntmps24
    repeat (first | go_values | go_skip | go_guarded | go_step)
    refine HB.out.mono ?_
    rintro e w1 ⟨⟨r, rfl, hr⟩, rfl⟩
    have HR := Lib.hid hr
    clear hr
    dsimp only
    repeat (first | go_values | go_skip | go_guarded | go_step | go_upon)
    go_ret
    exact ⟨⟨r, rfl, HR.out⟩, rfl⟩
/-- a text cut at its first /: what stands ahead of it, what behind it, and whether there is one -/
def CutIs (s a b : ByteArray) (ok : Bool) : Prop := (47 ∉ ordsOf s ∧ a = s ∧ b = ⟨#[]⟩ ∧ ok = false) ∨ (ordsOf s = ordsOf a ++ 47 :: ordsOf b ∧ 47 ∉ ordsOf a ∧ ok = true)
set_option maxHeartbeats 4000000 in
theorem nmlite_any (w : World) (s : ByteArray) (hs : s.size ≤ 1000000000000) :
    Calls Try.prog 21 #[.string s, .string ⟨#[47]⟩] w fun e w' => (∃ a b ok, e = .returned (.tuple #[.string a, .string b, .bool ok]) ∧ CutIs s a b ok) ∧ ∃ n, w' = w.drewN n := by
  have HI := Lib.hid (nmindex_any w s hs)
  go_enter Try.func21, Try.ntmps21
  repeat (first | go_values | go_skip | go_guarded | go_step)
  refine HI.out.mono ?_
  rintro e w1 ⟨⟨r, rfl, hr⟩, rfl⟩
  dsimp only
  rcases hr with ⟨h1, rfl⟩ | ⟨a, b, h1, h2, rfl⟩
  · have HC : Hid (CutIs s s ⟨#[]⟩ false) := Lib.hid (.inl ⟨h1, rfl, rfl, rfl⟩)
    clear h1
    repeat (first | go_values | go_skip | go_guarded | go_step | go_upon)
    go_ret3
    exact ⟨⟨_, _, _, rfl, HC.out⟩, 0, rfl⟩
  · have hsz : s.size = a.length + 1 + b.length := by have := congrArg List.length h1; rw [ordsOf_length] at this; simp at this; omega
    obtain ⟨i, hi⟩ : ∃ i, i = a.length := ⟨_, rfl⟩
    have ha : ∀ x ∈ a, x < 256 := fun x hx => ordsOf_lt s x (by rw [h1]; simp [hx])
    have hb : ∀ x ∈ b, x < 256 := fun x hx => ordsOf_lt s x (by rw [h1]; simp [hx])
    have hx1 : s.extract 0 i = strOf a := ords_inj (by rw [ords_extract, ords_strOf ha, h1, hi]; simp)
    have hx2 : s.extract (i + 1) s.size = strOf b := ords_inj (by rw [ords_extract, ords_strOf hb, h1, hi, hsz, show a ++ 47 :: b = (a ++ [47]) ++ b by simp, List.drop_left' (by simp)]; simp)
    have HC : Hid (CutIs s (strOf a) (strOf b) true) := Lib.hid (.inr ⟨by rw [ords_strOf ha, ords_strOf hb]; exact h1, by rw [ords_strOf ha]; exact h2, rfl⟩)
    have hi1 : i ≤ s.size := by omega
    have hi2 : i + 1 ≤ s.size := by omega
    have c1 : (i : Int) ≤ (s.size : Int) := by omega
    have c2 : (i : Int) + 1 ≤ (s.size : Int) := by omega
    rw [← hi]
    clear h1 h2 hi hsz ha hb
    have t0 : decide ((0 : Int) ≤ (i : Int)) = true := by simp only [decide_eq_true_eq]; omega
    repeat (first | go_values | go_skip | go_guarded | go_step)
    go_region
    repeat (first | go_values | go_skip | go_guarded | go_step | go_upon)
    go_ret3
    exact ⟨⟨_, _, _, rfl, HC.out⟩, 1, rfl⟩
set_option maxHeartbeats 1000000 in
theorem nmcut_any (w : World) (s : ByteArray) (hs : s.size ≤ 1000000000000) :
    Calls Try.prog 16 #[.string s, .string ⟨#[47]⟩] w fun e w' => (∃ a b ok, e = .returned (.tuple #[.string a, .string b, .bool ok]) ∧ CutIs s a b ok) ∧ ∃ n, w' = w.drewN n := by
  have HI := Lib.hid (nmlite_any w s hs)
  go_enter Try.func16, Try.ntmps16
  repeat (first | go_values | go_skip | go_guarded | go_step)
  refine HI.out.mono ?_
  rintro e w1 ⟨⟨a, b, ok, rfl, hc⟩, n, rfl⟩
  have HC := Lib.hid hc
  clear hc
  dsimp only
  repeat (first | go_values | go_skip | go_guarded | go_step | go_upon)
  go_ret3
  exact ⟨⟨_, _, _, rfl, HC.out⟩, n, rfl⟩
end Go.Proofs.Ytnaepipdlcineaa
