/- Package series: from which place on, up to which one. -/
import Derived.Test.YtpgbeebpeldjdaaSePlace
namespace Go.Proofs.Ytpgbeebpeldjdaa
open Go.RowKit

set_option maxHeartbeats 4000000 in
set_option maxRecDepth 100000 in
theorem sespan_any {w : World} {v : Value} {l : List Pt} (hv : PLies w v l) (hs : Srt l) (hn : l.length ≤ 1000000000000) (a b : Int) :
    Calls Try.prog 25 #[v, .agg #[.int .i64 a, .int .i64 b]] w fun e w' => e = .returned (.tuple #[.int .i64 (cntP l a : Nat), .int .i64 (endP l a b : Nat)]) ∧ Below w.heap.size w w' := by
  have HPA : Hid (∀ W, PLies W v l → Calls Try.prog 27 #[v, .int .i64 a] W fun e w' => e = .returned (.tuple #[.int .i64 (cntP l a : Nat), .bool (hasP l a)]) ∧ Below W.heap.size W w') := Lib.hid fun W h => seplace_any h hs hn a
  have HPB : Hid (∀ W, PLies W v l → Calls Try.prog 27 #[v, .int .i64 b] W fun e w' => e = .returned (.tuple #[.int .i64 (cntP l b : Nat), .bool (hasP l b)]) ∧ Below W.heap.size W w') := Lib.hid fun W h => seplace_any h hs hn b
  have HV := Lib.hid hv
  clear hv hs hn
  obtain ⟨E, hE⟩ : ∃ E, E = endP l a b := ⟨_, rfl⟩
  rw [← hE]
  unfold endP at hE
  obtain ⟨K, hK⟩ : ∃ K, K = cntP l a := ⟨_, rfl⟩
  obtain ⟨T, hT⟩ : ∃ T, T = cntP l b := ⟨_, rfl⟩
  obtain ⟨q, hq⟩ : ∃ q, q = hasP l a := ⟨_, rfl⟩
  obtain ⟨s, hs⟩ : ∃ s, s = hasP l b := ⟨_, rfl⟩
  rw [← hK] at HPA hE ⊢
  rw [← hq] at HPA
  rw [← hT] at HPB hE
  rw [← hs] at HPB
  have HE := Lib.hid hE
  clear hK hT hq hs hE
  go_enter Try.func25, Try.ntmps25
  repeat (first | go_values | go_skip | go_guarded | go_step)
  refine calls_name ?_
  intro W1 hW1
  obtain ⟨P, hP⟩ : ∃ P, P = w.heap.size := ⟨_, rfl⟩
  have hb1 : Below w.heap.size w W1 := by rw [hW1.out]; exact (Below.refl _ _).alloc (Nat.le_refl _) _
  have HR1 : Hid (W1.heap[P]? = some (.cells #[.int .i64 a, .int .i64 b] 38 (0, 0))) := Lib.hid (by rw [hW1.out, hP]; exact heap_alloc_new w _)
  have HV1 := Lib.hid (HV.out.beyond hb1)
  have HB1 := Lib.hid hb1
  rw [← hP]
  clear hW1 hP hb1
  refine (HPA.out W1 HV1.out).mono ?_
  rintro e W2 ⟨rfl, hb⟩
  have HR2 : Hid (W2.heap[P]? = some (.cells #[.int .i64 a, .int .i64 b] 38 (0, 0))) := Lib.hid ((hb.block P (lt_of_block HR1.out)).trans HR1.out)
  have HV2 := Lib.hid (HV1.out.beyond hb)
  have HB2 := Lib.hid (HB1.out.trans (hb.mono HB1.out.size))
  clear hb
  obtain ⟨c0, c1, -, -⟩ := cells2 HR2.out
  dsimp only
  repeat (first | go_values | go_skip | go_guarded | go_step)
  refine (HPB.out W2 HV2.out).mono ?_
  rintro e W3 ⟨rfl, hb⟩
  have HB3 := Lib.hid (HB2.out.trans (hb.mono HB2.out.size))
  clear hb c0 c1
  dsimp only
  by_cases hKT : K < T
  · have he : E = T := by have := HE.out; omega
    subst he
    go_wp2
    go_ret2
    exact ⟨rfl, HB3.out⟩
  · have he : E = K := by have := HE.out; omega
    subst he
    go_wp2
    go_ret2
    exact ⟨rfl, HB3.out⟩
end Go.Proofs.Ytpgbeebpeldjdaa
