/- Package tier: is what begins at a tick gone? The closure that Drop hands on. -/
import Derived.Test.YthbdchleppbidaaGreatZTiTicks
import Derived.Test.YthbdchleppbidaaGreatMW
import Derived.Deep.RegionHeld3
import Derived.Shelf.Abstract
namespace Go.Proofs.YthbdchleppbidaaGreat
open Go.RowKit

/-- a value in a block of its own -/
theorem box_keep {W W' : World} {C : Nat} {u : Value} {t : TypeId} (h : W.heap[C]? = some (.cells #[u] t (0, 0))) (hb : Below W.heap.size W W') : W'.heap[C]? = some (.cells #[u] t (0, 0)) := (hb.block C (lt_of_block h)).trans h
/-- what a function that is asked of ranges answers, in every world beyond w -/
structure AskD (w : World) (G : FuncId) (cap : Array Value) (t : Int) (L : List Int) (f : Int → Bool) : Prop where
  ent : ∀ args W, (callFunc G args).run Tryz.prog W = .ok (.enter G args) W
  ask : ∀ W, Below w.heap.size w W → ∀ x ∈ L, Calls Tryz.prog G (#[.agg #[.int .i64 (startW t x), .int .i64 (endW t x)]] ++ cap) W fun e w' => e = .returned (.bool (f x)) ∧ Below W.heap.size W w'
set_option maxHeartbeats 8000000 in
set_option maxRecDepth 100000 in
theorem tidrop1_any {w W : World} {G Gb Tb : Nat} {cap : Array Value} {t : Int} {L : List Int} {f : Int → Bool} (h : AskD w G cap t L f) (t0 : -9223372036854775808 ≤ t) (t1 : t ≤ 9223372036854775807) (hg : W.heap[Gb]? = some (.cells #[.func (.func G) #[] cap] 83 (0, 0))) (ht : W.heap[Tb]? = some (.cells #[.int .i64 t] 3 (0, 0)))
    (hb : Below w.heap.size w W) {x : Int} (hx : x ∈ L) (x0 : -9223372036854775808 ≤ x) (x1 : x ≤ 9223372036854775807) :
    Calls Tryz.prog 73 #[.int .i64 x, .pointer (some ⟨Gb, 0, none⟩), .pointer (some ⟨Tb, 0, none⟩)] W fun e w' => e = .returned (.bool (!f x)) ∧ Below W.heap.size W w' := by
  have eG := h.ent
  have HOF : Hid (∀ V, Calls Tryz.prog 43 #[.int .i64 t, .int .i64 x] V fun e w' => e = .returned (.agg #[.int .i64 (startW t x), .int .i64 (endW t x)]) ∧ Below V.heap.size V w') := Lib.hid fun V => wiof_any V t x t0 t1 x0 x1
  have HAS : Hid (∀ V, Below w.heap.size w V → Calls Tryz.prog G (#[.agg #[.int .i64 (startW t x), .int .i64 (endW t x)]] ++ cap) V fun e w' => e = .returned (.bool (f x)) ∧ Below V.heap.size V w') := Lib.hid fun V hV => h.ask V hV x hx
  have HB0 : Hid (Below w.heap.size w W.drew) := Lib.hid (below_drew hb)
  have HV0 : Hid (Below W.heap.size W W.drew) := Lib.hid (below_drew (Below.refl _ _))
  have HG0 : Hid (W.drew.heap[Gb]? = some (.cells #[.func (.func G) #[] cap] 83 (0, 0))) := Lib.hid hg
  have HT0 : Hid (W.drew.heap[Tb]? = some (.cells #[.int .i64 t] 3 (0, 0))) := Lib.hid ht
  have HC0 : Hid (W.drew.cell? ⟨Gb, 0, none⟩ = some (.func (.func G) #[] cap) ∧ W.drew.cell? ⟨Tb, 0, none⟩ = some (.int .i64 t)) := Lib.hid ⟨(cells1 hg).1, (cells1 ht).1⟩
  obtain ⟨a, ha⟩ : ∃ a, a = startW t x := ⟨_, rfl⟩
  obtain ⟨b, hbb⟩ : ∃ b, b = endW t x := ⟨_, rfl⟩
  obtain ⟨R, hR⟩ : ∃ R, R = f x := ⟨_, rfl⟩
  rw [← ha, ← hbb] at HOF HAS
  rw [← hR] at HAS ⊢
  clear ha hbb hR hg ht hb h hx
  go_enter Tryz.func73, Tryz.ntmps73
  go_upto_region 1 with fail
  go_region_held3 (fun w' => w'.cell? ⟨Gb, 0, none⟩ = some (.func (.func G) #[] cap) ∧ w'.cell? ⟨Tb, 0, none⟩ = some (.int .i64 t)) (first | with_reducible exact HC0.out | with_reducible exact HC1.out | with_reducible exact HC2.out) (((first | (go_at_call 43; refine (HOF.out _).mono ?_; clear HOF; rintro e W1 ⟨rfl, hb1⟩; have HB1 := Lib.hid (HB0.out.trans (hb1.mono HB0.out.size)); have HV1 := Lib.hid (HV0.out.trans (hb1.mono HV0.out.size)); have HG1 := Lib.hid (box_keep HG0.out hb1); have HT1 := Lib.hid (box_keep HT0.out hb1); have HC1 : Hid (W1.cell? ⟨Gb, 0, none⟩ = some (.func (.func G) #[] cap) ∧ W1.cell? ⟨Tb, 0, none⟩ = some (.int .i64 t)) := Lib.hid ⟨(cells1 HG1.out).1, (cells1 HT1.out).1⟩; clear hb1) | (go_at_fn G; refine (HAS.out _ HB1.out).mono ?_; clear HAS; rintro e W2 ⟨rfl, hb2⟩; have HV2 := Lib.hid (HV1.out.trans (hb2.mono HV1.out.size)); have HC2 : Hid (W2.cell? ⟨Gb, 0, none⟩ = some (.func (.func G) #[] cap) ∧ W2.cell? ⟨Tb, 0, none⟩ = some (.int .i64 t)) := Lib.hid ⟨(cells1 (box_keep HG1.out hb2)).1, (cells1 (box_keep HT1.out hb2)).1⟩; clear hb2)); dsimp only))
  go_wp2
  go_ret
  exact ⟨rfl, HV2.out⟩
end Go.Proofs.YthbdchleppbidaaGreat
