/- The laws' functions of a point: the same; with another value in a range. Written by py/ti-play.py. -/
import Derived.Test.YtmpphidiofhnlaaZTiAct
import Derived.Test.YtmpphidiofhnlaaMW
import Derived.Test.YtmpphidiofhnlaaMA
import Derived.Deep.DeepCutAuto
import Derived.Laws.ResultCell
namespace Go.Proofs.Ytmpphidiofhnlaa
open Go.RowKit

/-- a point with another value -/
def xorV (x y : Int) : Int := bits .xor .i64 x y
def valP (a b by_ : Int) (p : Pt) : Pt := if inR a b p.a = true then ⟨p.a, xorV p.v by_⟩ else p
theorem valP_a (a b y : Int) (p : Pt) : (valP a b y p).a = p.a := by unfold valP; split <;> rfl
theorem valP_out {a b y : Int} {p : Pt} (h : ¬ (a ≤ p.a ∧ p.a < b)) : valP a b y p = p := by
  unfold valP inR
  rw [if_neg]
  intro h2
  rw [Bool.and_eq_true, decide_eq_true_iff, decide_eq_true_iff] at h2
  exact h h2
theorem xorV_in (x y : Int) : -9223372036854775808 ≤ xorV x y ∧ xorV x y ≤ 9223372036854775807 := by
  show -9223372036854775808 ≤ IntKind.i64.wrap _ ∧ IntKind.i64.wrap _ ≤ 9223372036854775807
  rw [IntKind.wrap_i64]; omega
theorem valP_fits {a b y : Int} {p : Pt} (h : p.fits) : (valP a b y p).fits := by
  unfold valP
  split
  · have := xorV_in p.v y
    exact ⟨h.1, h.2.1, this.1, this.2⟩
  · exact h
theorem ptcells {W : World} {P : Nat} {p : Pt} (h : W.heap[P]? = some (.cells #[.int .i64 p.a, .int .i64 p.v] 31 (0, 0))) : W.cell? ⟨P, 0, none⟩ = some (.int .i64 p.a) ∧ W.cell? ⟨P, 1, none⟩ = some (.int .i64 p.v) ∧ W.frozen? ⟨P, 0, none⟩ = false ∧ W.frozen? ⟨P, 1, none⟩ = false := cells2 h
theorem ret_ptT {fn : Func} {p : Tmp} (h : fn.results = #[.cell p 31]) {tmps : Array Value} {w : World} {Q : Nat} {x y : Value} (hp : tmps.getD p undef = .pointer (some ⟨Q, 0, none⟩)) (hq : w.heap[Q]? = some (.cells #[x, y] 31 (0, 0))) :
    (results fn tmps).run Try.prog w = .ok (.agg #[x, y]) w := by
  have c0 : w.cell? ⟨Q, 0, none⟩ = some x := by rw [cell_of_row w Q 0 _ _ _ hq]; rfl
  have c1 : w.cell? ⟨Q, 1, none⟩ = some y := by rw [cell_of_row w Q 1 _ _ _ hq]; rfl
  rw [results_cell h, hp]
  go_simp
set_option maxHeartbeats 2000000 in
theorem valF1 (w : World) (p : Pt) : Calls Try.prog 10 #[.agg #[.int .i64 p.a, .int .i64 p.v]] w fun e w' => e = .returned (.agg #[.int .i64 p.a, .int .i64 p.v]) ∧ Below w.heap.size w w' := by
  have HB : Hid (Below w.heap.size w ((w.alloc (.cells #[.int .i64 p.a, .int .i64 p.v] 31)).alloc (.cells #[.int .i64 0, .int .i64 0] 31))) := Lib.hid (((Below.refl _ _).alloc (Nat.le_refl _) _).alloc (by simp) _)
  go_enter Try.func10, Try.ntmps10
  go_upto_region 1 with fail
  refine wp_name fun W1 hW1 => ?_
  obtain ⟨N, hN⟩ : ∃ N, N = w.heap.size := ⟨_, rfl⟩
  have h0 : W1.heap[N]? = some (.cells #[.int .i64 p.a, .int .i64 p.v] 31 (0, 0)) := by rw [hW1.out, hN]; exact (Below.heap_alloc _ _ _ (by simp)).trans (heap_alloc_new w _)
  have h1 : W1.heap[N + 1]? = some (.cells #[.int .i64 0, .int .i64 0] 31 (0, 0)) := by rw [hW1.out, hN, ← World.size_alloc w (.cells #[.int .i64 p.a, .int .i64 p.v] 31)]; exact heap_alloc_new _ _
  have H1 := Lib.hid h1
  have HB1 : Hid (Below w.heap.size w W1) := Lib.hid (by rw [hW1.out]; exact HB.out)
  have HN := Lib.hid hN
  rw [← hN]
  obtain ⟨c0, c1, -, -⟩ := ptcells h0
  obtain ⟨d0, d1, f0, f1⟩ := cells2 h1
  clear hW1 hN h0 h1 HB
  go_wp2
  have h9 := heap_setCell_same _ (N + 1) 1 _ _ (.int .i64 p.v) (heap_setCell_same W1 (N + 1) 0 _ _ (.int .i64 p.a) H1.out)
  refine bodyPost_ret (ret_ptT (Q := N + 1) (x := .int .i64 p.a) (y := .int .i64 p.v) rfl rfl (by rw [h9]; simp)) rfl ?_
  exact ⟨rfl, HB1.out.trans (((Only.setCell (S := fun k => k = N + 1) _ rfl _).trans (Only.setCell (S := fun k => k = N + 1) _ rfl _) (fun _ _ h => h)).below HB1.out.size (fun k hk => by have := HN.out; omega))⟩
set_option maxHeartbeats 2000000 in
theorem valF3 (w : World) (p : Pt) : Calls Try.prog 20 #[.agg #[.int .i64 p.a, .int .i64 p.v]] w fun e w' => e = .returned (.agg #[.int .i64 p.a, .int .i64 p.v]) ∧ Below w.heap.size w w' := by
  have HB : Hid (Below w.heap.size w ((w.alloc (.cells #[.int .i64 p.a, .int .i64 p.v] 31)).alloc (.cells #[.int .i64 0, .int .i64 0] 31))) := Lib.hid (((Below.refl _ _).alloc (Nat.le_refl _) _).alloc (by simp) _)
  go_enter Try.func20, Try.ntmps20
  go_upto_region 1 with fail
  refine wp_name fun W1 hW1 => ?_
  obtain ⟨N, hN⟩ : ∃ N, N = w.heap.size := ⟨_, rfl⟩
  have h0 : W1.heap[N]? = some (.cells #[.int .i64 p.a, .int .i64 p.v] 31 (0, 0)) := by rw [hW1.out, hN]; exact (Below.heap_alloc _ _ _ (by simp)).trans (heap_alloc_new w _)
  have h1 : W1.heap[N + 1]? = some (.cells #[.int .i64 0, .int .i64 0] 31 (0, 0)) := by rw [hW1.out, hN, ← World.size_alloc w (.cells #[.int .i64 p.a, .int .i64 p.v] 31)]; exact heap_alloc_new _ _
  have H1 := Lib.hid h1
  have HB1 : Hid (Below w.heap.size w W1) := Lib.hid (by rw [hW1.out]; exact HB.out)
  have HN := Lib.hid hN
  rw [← hN]
  obtain ⟨c0, c1, -, -⟩ := ptcells h0
  obtain ⟨d0, d1, f0, f1⟩ := cells2 h1
  clear hW1 hN h0 h1 HB
  go_wp2
  have h9 := heap_setCell_same _ (N + 1) 1 _ _ (.int .i64 p.v) (heap_setCell_same W1 (N + 1) 0 _ _ (.int .i64 p.a) H1.out)
  refine bodyPost_ret (ret_ptT (Q := N + 1) (x := .int .i64 p.a) (y := .int .i64 p.v) rfl rfl (by rw [h9]; simp)) rfl ?_
  exact ⟨rfl, HB1.out.trans (((Only.setCell (S := fun k => k = N + 1) _ rfl _).trans (Only.setCell (S := fun k => k = N + 1) _ rfl _) (fun _ _ h => h)).below HB1.out.size (fun k hk => by have := HN.out; omega))⟩
set_option maxHeartbeats 4000000 in
set_option maxRecDepth 100000 in
theorem valF2 {w : World} {P Q : Nat} {a b y : Int} (hP : RgAt w P a b) (hQ : w.heap[Q]? = some (.cells #[.int .i64 y] 2 (0, 0))) (p : Pt) : Calls Try.prog 11 #[.agg #[.int .i64 p.a, .int .i64 p.v], .pointer (some ⟨P, 0, none⟩), .pointer (some ⟨Q, 0, none⟩)] w fun e w' => e = .returned (.agg #[.int .i64 (valP a b y p).a, .int .i64 (valP a b y p).v]) ∧ Below w.heap.size w w' := by
  have HP := Lib.hid hP
  have HQ := Lib.hid hQ
  have HI : Hid (∀ W, Calls Try.prog 12 #[.agg #[.int .i64 a, .int .i64 b], .int .i64 p.a] W fun e w' => e = .returned (.bool (inR a b p.a)) ∧ Below W.heap.size W w') := Lib.hid fun W => wiin_any W a b p.a
  obtain ⟨R, hR⟩ : ∃ R, R = valP a b y p := ⟨_, rfl⟩
  rw [← hR]
  have HR := Lib.hid hR
  clear hR hP hQ
  go_enter Try.func11, Try.ntmps11
  go_upto_region 1 with fail
  refine wp_name fun W1 hW1 => ?_
  obtain ⟨N, hN⟩ : ∃ N, N = w.heap.size := ⟨_, rfl⟩
  have h0 : W1.heap[N]? = some (.cells #[.int .i64 p.a, .int .i64 p.v] 31 (0, 0)) := by rw [hW1.out, hN]; exact (Below.heap_alloc _ _ _ (by simp)).trans (heap_alloc_new w _)
  have h1 : W1.heap[N + 1]? = some (.cells #[.int .i64 0, .int .i64 0] 31 (0, 0)) := by rw [hW1.out, hN, ← World.size_alloc w (.cells #[.int .i64 p.a, .int .i64 p.v] 31)]; exact heap_alloc_new _ _
  have hb1 : Below w.heap.size w W1 := by rw [hW1.out]; exact ((Below.refl _ _).alloc (Nat.le_refl _) _).alloc (by simp) _
  have H0 := Lib.hid h0
  have H1 := Lib.hid h1
  have HB1 := Lib.hid hb1
  have HN := Lib.hid hN
  have HP1 := Lib.hid (HP.out.keep hb1)
  have HQ1 : Hid (W1.heap[Q]? = some (.cells #[.int .i64 y] 2 (0, 0))) := Lib.hid ((hb1.block Q (lt_of_block HQ.out)).trans HQ.out)
  rw [← hN]
  obtain ⟨c0, c1, -, -⟩ := ptcells h0
  obtain ⟨r0, r1, -, -⟩ := HP1.out.cells
  clear hW1 hN h0 h1 hb1
  go_wp2_with fail
  refine (HI.out W1).mono ?_
  rintro e W2 ⟨rfl, hb⟩
  have H02 : Hid (W2.heap[N]? = some (.cells #[.int .i64 p.a, .int .i64 p.v] 31 (0, 0))) := Lib.hid ((hb.block N (lt_of_block H0.out)).trans H0.out)
  have H12 : Hid (W2.heap[N + 1]? = some (.cells #[.int .i64 0, .int .i64 0] 31 (0, 0))) := Lib.hid ((hb.block (N + 1) (lt_of_block H1.out)).trans H1.out)
  have HQ2 : Hid (W2.heap[Q]? = some (.cells #[.int .i64 y] 2 (0, 0))) := Lib.hid ((hb.block Q (lt_of_block HQ1.out)).trans HQ1.out)
  have HB2 := Lib.hid (HB1.out.trans (hb.mono HB1.out.size))
  have hQN : ¬ Q = N := by have := HN.out; have := lt_of_block HQ.out; omega
  clear hb c0 c1 r0 r1 H0 H1
  dsimp only
  obtain ⟨c0, c1, e0, e1⟩ := ptcells H02.out
  obtain ⟨d0, d1, f0, f1⟩ := cells2 H12.out
  obtain ⟨y0, -⟩ := cells1 HQ2.out
  cases hi : inR a b p.a with
  | true =>
    have HE : Hid (R = ⟨p.a, xorV p.v y⟩) := Lib.hid (by rw [HR.out]; unfold valP; rw [if_pos hi])
    obtain ⟨z, hz⟩ : ∃ z, z = xorV p.v y := ⟨_, rfl⟩
    have ez : bits .xor .i64 p.v y = z := hz.symm
    rw [← hz] at HE
    clear hi hz
    go_wp2
    have hs : Only (fun k => k = N) W2 (W2.setCell ⟨N, 1, none⟩ (.int .i64 z)) := Only.setCell (S := fun k => k = N) _ rfl _
    have h13 := (hs.block (N + 1) (lt_of_block H12.out) (by omega)).trans H12.out
    have h9 := heap_setCell_same _ (N + 1) 1 _ _ (.int .i64 z) (heap_setCell_same (W2.setCell ⟨N, 1, none⟩ (.int .i64 z)) (N + 1) 0 _ _ (.int .i64 p.a) h13)
    refine bodyPost_ret (ret_ptT (Q := N + 1) (x := .int .i64 p.a) (y := .int .i64 z) rfl rfl (by rw [h9]; simp)) rfl ?_
    exact ⟨by rw [HE.out], (HB2.out.trans (hs.below HB2.out.size (fun k hk => by have := HN.out; omega))).trans (((Only.setCell (S := fun k => k = N + 1) _ rfl _).trans (Only.setCell (S := fun k => k = N + 1) _ rfl _) (fun _ _ h => h)).below (Nat.le_trans HB2.out.size hs.size) (fun k hk => by have := HN.out; omega))⟩
  | false =>
    have HE : Hid (R = p) := Lib.hid (by rw [HR.out]; unfold valP; rw [if_neg (by rw [hi]; simp)])
    clear hi
    go_wp2
    have h9 := heap_setCell_same _ (N + 1) 1 _ _ (.int .i64 p.v) (heap_setCell_same W2 (N + 1) 0 _ _ (.int .i64 p.a) H12.out)
    refine bodyPost_ret (ret_ptT (Q := N + 1) (x := .int .i64 p.a) (y := .int .i64 p.v) rfl rfl (by rw [h9]; simp)) rfl ?_
    exact ⟨by rw [HE.out], HB2.out.trans (((Only.setCell (S := fun k => k = N + 1) _ rfl _).trans (Only.setCell (S := fun k => k = N + 1) _ rfl _) (fun _ _ h => h)).below HB2.out.size (fun k hk => by have := HN.out; omega))⟩
end Go.Proofs.Ytmpphidiofhnlaa
