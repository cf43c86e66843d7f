/- The chapter's example of layer 17. -/
import Derived.Test.YtphgkkdpdiiioaaHoAddY
import Derived.Test.YtphgkkdpdiiioaaHoCov
namespace Go.Proofs.Ytphgkkdpdiiioaa
open Go.RowKit

/-- the example's hold -/
def holdEx : Hld := ⟨⟨#[104]⟩, ⟨#[99, 112, 117]⟩, 10, 20⟩
theorem exAdd : addE [] holdEx = 0 := by decide +kernel
theorem exAddM : addM [] holdEx = [holdEx] := by unfold addM; rw [exAdd]; rfl
theorem exTab : TabM [holdEx] := by have := TabM.nil.add holdEx; rwa [exAddM] at this
theorem ex19 : someH [holdEx] ⟨#[99, 112, 117]⟩ (fun a b => inR a b 19) = true := by decide +kernel
theorem ex20 : someH [holdEx] ⟨#[99, 112, 117]⟩ (fun a b => inR a b 20) = false := by decide +kernel
theorem exMem : someH [holdEx] ⟨#[109, 101, 109]⟩ (fun a b => inR a b 19) = false := by decide +kernel
set_option maxHeartbeats 8000000 in
theorem hollives_any (w : World) : Calls Try.prog 6 #[] w fun e w' => e = .returned (.bool true) ∧ Below w.heap.size w w' := by
  have HN := Lib.hid (honew_any w)
  have HA : Hid (∀ W p, TabAt W p none [] → Calls Try.prog 11 #[.pointer (some ⟨p, 0, none⟩), .agg #[.string ⟨#[104]⟩, .string ⟨#[99, 112, 117]⟩, .int .i64 10, .int .i64 20]] W fun e w' => e = .returned (.int .i64 0) ∧ ∃ b', TabAt w' p b' [holdEx] ∧ Only (TFoot p none) W w') := Lib.hid fun W p h => by
    have := hoadd_any h holdEx (by decide) (by decide)
    rw [exAdd, exAddM] at this
    exact this.mono fun e w' ⟨he, b', h1, h2, _⟩ => ⟨he, b', h1, h2⟩
  have H1 : Hid (∀ W p b, TabAt W p b [holdEx] → Calls Try.prog 15 #[.pointer (some ⟨p, 0, none⟩), .string ⟨#[99, 112, 117]⟩, .int .i64 19] W fun e w' => e = .returned (.bool true) ∧ Below W.heap.size W w') := Lib.hid fun W p b h => by have := hocov_any h exTab ⟨#[99, 112, 117]⟩ 19; rwa [ex19] at this
  have H2 : Hid (∀ W p b, TabAt W p b [holdEx] → Calls Try.prog 15 #[.pointer (some ⟨p, 0, none⟩), .string ⟨#[99, 112, 117]⟩, .int .i64 20] W fun e w' => e = .returned (.bool false) ∧ Below W.heap.size W w') := Lib.hid fun W p b h => by have := hocov_any h exTab ⟨#[99, 112, 117]⟩ 20; rwa [ex20] at this
  have H3 : Hid (∀ W p b, TabAt W p b [holdEx] → Calls Try.prog 15 #[.pointer (some ⟨p, 0, none⟩), .string ⟨#[109, 101, 109]⟩, .int .i64 19] W fun e w' => e = .returned (.bool false) ∧ Below W.heap.size W w') := Lib.hid fun W p b h => by have := hocov_any h exTab ⟨#[109, 101, 109]⟩ 19; rwa [exMem] at this
  go_enter Try.func6, Try.ntmps6
  go_wp2_with (first
    | (go_at_call 7; refine (HN.out).mono ?_; clear HN; rintro e W1 ⟨p, rfl, ht1, hp1, hb1⟩; have HT1 := Lib.hid ht1; have HP1 := Lib.hid hp1; have HB1 := Lib.hid hb1; clear ht1 hp1 hb1)
    | (go_at_call 11; refine (HA.out _ _ HT1.out).mono ?_; clear HA; rintro e W2 ⟨rfl, b', ht2, ho2⟩; have HT2 := Lib.hid ht2; have HB2 := Lib.hid (HB1.out.trans (ho2.below HB1.out.size (fun k hk => by rcases hk with rfl | hk; exact HP1.out; cases hk))); clear ht2 ho2)
    | (go_at_call 15; with_reducible refine (H1.out _ _ _ HT2.out).mono ?_; clear H1; rintro e W3 ⟨rfl, hb3⟩; have HT3 := Lib.hid (HT2.out.below hb3); have HB3 := Lib.hid (HB2.out.trans (hb3.mono HB2.out.size)); clear hb3)
    | (go_at_call 15; with_reducible refine (H2.out _ _ _ HT3.out).mono ?_; clear H2; rintro e W4 ⟨rfl, hb4⟩; have HT4 := Lib.hid (HT3.out.below hb4); have HB4 := Lib.hid (HB3.out.trans (hb4.mono HB3.out.size)); clear hb4)
    | (go_at_call 15; with_reducible refine (H3.out _ _ _ HT4.out).mono ?_; clear H3; rintro e W5 ⟨rfl, hb5⟩; have HB5 := Lib.hid (HB4.out.trans (hb5.mono HB4.out.size)); clear hb5))
  go_ret
  exact ⟨rfl, HB5.out⟩
end Go.Proofs.Ytphgkkdpdiiioaa
