/- Package roll: Add. -/
import Derived.Test.YtdmlolagpbobeaaRoWith
namespace Go.Proofs.Ytdmlolagpbobeaa
open Go.RowKit

set_option maxHeartbeats 4000000 in
set_option maxRecDepth 100000 in
theorem roadd_any (w : World) {t : Ag} (ht : t.fits) {v : Int} (h0 : -9223372036854775808 ≤ v) (h1 : v ≤ 9223372036854775807) :
    Calls Try.prog 11 #[agV t, .int .i64 v] w fun e w' => e = .returned (agV (addA t v)) ∧ Below w.heap.size w w' := by
  have HW : Hid (∀ W, Calls Try.prog 21 #[.agg #[.int .i64 t.at_, .int .i64 t.n, .int .i64 t.s, .int .i64 t.lo, .int .i64 t.hi], .agg #[.int .i64 0, .int .i64 1, .int .i64 v, .int .i64 v, .int .i64 v]] W fun e w' => e = .returned (agV (addA t v)) ∧ Below W.heap.size W w') := Lib.hid fun W => rowith_any W ht (oneA_fits h0 h1)
  obtain ⟨R, hR⟩ : ∃ R, R = addA t v := ⟨_, rfl⟩
  rw [← hR] at HW ⊢
  clear hR ht
  unfold agV at HW ⊢
  go_enter Try.func11, Try.ntmps11
  go_upto_region 1 with fail
  refine wp_name fun W1 hW1 => ?_
  obtain ⟨N, hN⟩ : ∃ N, N = w.heap.size := ⟨_, rfl⟩
  obtain ⟨h1, h2, h3⟩ := two_new w t zeroAg hW1.out
  have HN := Lib.hid hN
  rw [← hN] at h1 h2 ⊢
  have H2 := Lib.hid h2
  have H3 := Lib.hid h3
  obtain ⟨c0, c1, c2, c3, c4, -, -, -, -, -⟩ := h1.cells
  clear h1 h2 h3 hW1 hN
  go_wp2_with fail
  refine (HW.out W1).mono ?_
  rintro e W2 ⟨rfl, hb⟩
  have HZ2 := Lib.hid (H2.out.keep hb)
  have HB2 := Lib.hid (H3.out.trans (hb.mono H3.out.size))
  clear hb c0 c1 c2 c3 c4 H2 H3
  dsimp only
  obtain ⟨z0, z1, z2, z3, z4, g0, g1, g2, g3, g4⟩ := HZ2.out.cells
  go_wp2
  refine bodyPost_ret (ret_ag (Q := N + 1) (t := R) rfl rfl (setAg_at HZ2.out R)) rfl ?_
  exact ⟨rfl, HB2.out.trans ((setAg_only W2 (N + 1) R).below HB2.out.size (fun k hk => by have := HN.out; omega))⟩
end Go.Proofs.Ytdmlolagpbobeaa
