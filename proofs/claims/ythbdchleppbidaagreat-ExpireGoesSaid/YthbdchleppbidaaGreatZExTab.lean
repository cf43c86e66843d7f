/- The law's own: a table of holds; are they few, and little? -/
import Derived.Test.YthbdchleppbidaaGreatMH
import Derived.Test.YthbdchleppbidaaGreatMQ
import Derived.Test.YthbdchleppbidaaGreatME
import Derived.Deep.DeepCutAuto
namespace Go.Proofs.YthbdchleppbidaaGreat
open Go.RowKit

/-- what a table holds behind all of these -/
def tabX (L : List Hld) : List Hld := L.foldl addM []
theorem tabX_snoc (L : List Hld) (x : Hld) : tabX (L ++ [x]) = addM (tabX L) x := by unfold tabX; rw [List.foldl_append]; rfl
theorem tabX_ok (L : List Hld) : TabM (tabX L) := by
  have key : ∀ (L : List Hld) (m : List Hld), TabM m → TabM (L.foldl addM m) := by
    intro L
    induction L with
    | nil => intro m h; exact h
    | cons x r ih => intro m h; exact ih _ (h.add x)
  exact key L [] TabM.nil
/-- one of a row, as it is read -/
theorem HLies.cells {w : World} {a : Option Addr} {b off c : Nat} {l : List Hld} (h : ∀ i x, l[i]? = some x → ∀ j u, x.cells[j]? = some u → w.cell? ⟨b, off + i * 4 + j, none⟩ = some u) {k : Nat} {x : Hld} (hx : l[k]? = some x) (_ : a = some ⟨b, off, none⟩) (_ : c = c) :
    w.cell? ⟨b, off + k * 4, none⟩ = some (.string x.name) ∧ w.cell? ⟨b, off + k * 4 + 1, none⟩ = some (.string x.ser) ∧ w.cell? ⟨b, off + k * 4 + 2, none⟩ = some (.int .i64 x.a) ∧ w.cell? ⟨b, off + k * 4 + 3, none⟩ = some (.int .i64 x.b) :=
  ⟨h k x hx 0 _ rfl, h k x hx 1 _ rfl, h k x hx 2 _ rfl, h k x hx 3 _ rfl⟩
/-- a hold in a block of its own -/
theorem hold_cells {W : World} {P : Nat} {x : Hld} (h : W.heap[P]? = some (.cells #[.string x.name, .string x.ser, .int .i64 x.a, .int .i64 x.b] 60 (0, 0))) :
    W.cell? ⟨P, 0, none⟩ = some (.string x.name) ∧ W.cell? ⟨P, 1, none⟩ = some (.string x.ser) ∧ W.cell? ⟨P, 2, none⟩ = some (.int .i64 x.a) ∧ W.cell? ⟨P, 3, none⟩ = some (.int .i64 x.b) :=
  ⟨by simp [World.cell?, h], by simp [World.cell?, h], by simp [World.cell?, h], by simp [World.cell?, h]⟩
set_option maxHeartbeats 8000000 in
set_option maxRecDepth 100000 in
theorem extable_any {w : World} {v : Value} {L : List Hld} (hv : HLies w v L) (hin : ∀ x ∈ L, x.In) (hn : L.length ≤ 1000000) :
    Calls Tryz.prog 10 #[v] w fun e w' => ∃ p b, e = .returned (.pointer (some ⟨p, 0, none⟩)) ∧ TabAt w' p b (tabX L) ∧ (∀ k, TFoot p b k → w.heap.size ≤ k) ∧ Below w.heap.size w w' := by
  obtain ⟨a, b, off, cap, rfl, hadr, hc⟩ := hv
  have HADR := Lib.hid hadr
  have HC := Lib.hid hc
  have HIN := Lib.hid hin
  have HN := Lib.hid (honew_any w)
  clear hadr hc hin
  go_enter Tryz.func10, Tryz.ntmps10
  go_wp2_with fail
  refine HN.out.mono ?_
  rintro e W1 ⟨p, rfl, h1, h2, hb⟩
  have HT1 := Lib.hid h1
  have HP := Lib.hid h2
  have HB1 := Lib.hid hb
  clear h1 h2 hb HN
  dsimp only
  go_wp2_with fail
  go_loopw [9] (fun c wr => ∃ (j : Nat) (g : Option Nat), j ≤ L.length ∧ c = .int .i64 j ∧ TabAt wr p g (tabX (L.take j)) ∧ (∀ k, TFoot p g k → w.heap.size ≤ k) ∧ Below w.heap.size w wr) (fun c _ => L.length - (intOf c).toNat)
  case atStart =>
    refine ⟨0, none, Nat.zero_le _, rfl, HT1.out, fun k hk => ?_, HB1.out⟩
    rcases hk with rfl | hk
    · exact HP.out
    · cases hk
  case round =>
    obtain ⟨j, g, hj, rfl, ht, hg, hb⟩ := hrel
    obtain ⟨W3, hW3⟩ : ∃ W3, W3 = wr := ⟨_, rfl⟩
    subst hW3
    have HT3 := Lib.hid ht
    have HG3 := Lib.hid hg
    have HB3 := Lib.hid hb
    clear ht hg hb HT1 HB1
    by_cases hlt : j < L.length
    · have ea := HADR.out (by intro h; simp [h] at hlt)
      subst ea
      obtain ⟨x, hx⟩ : ∃ x, L[j]? = some x := ⟨L[j], List.getElem?_eq_getElem hlt⟩
      have HXK := Lib.hid hx
      have HXI := Lib.hid (HIN.out x (List.mem_of_getElem? hx))
      have hcW : ∀ i y, L[i]? = some y → ∀ j u, y.cells[j]? = some u → W3.cell? ⟨b, off + i * 4 + j, none⟩ = some u := fun i y hy j u hu => (HB3.out.cell (p := ⟨b, _, none⟩) (cell_lt (HC.out i y hy j u hu))).trans (HC.out i y hy j u hu)
      obtain ⟨c0, c1, c2, c3⟩ := HLies.cells (a := some ⟨b, off, none⟩) (c := 0) hcW hx rfl rfl
      have hmax : j < 9223372036854775807 := by omega
      clear hx hcW
      go_upto_region 5 with fail
      refine wp_name fun W4 hW4 => ?_
      obtain ⟨M, hM⟩ : ∃ M, M = W3.heap.size := ⟨_, rfl⟩
      have hb4 : Below W3.heap.size W3 W4 := by rw [hW4.out]; exact (Below.refl _ _).alloc (Nat.le_refl _) _
      have HB4 := Lib.hid (HB3.out.trans (hb4.mono HB3.out.size))
      have HT4 := Lib.hid (HT3.out.below hb4)
      have p0 : W4.heap[M]? = some (.cells #[.string x.name, .string x.ser, .int .i64 x.a, .int .i64 x.b] 60 (0, 0)) := by rw [hW4.out, hM]; exact heap_alloc_new W3 _
      obtain ⟨d0, d1, d2, d3⟩ := hold_cells p0
      have HAD := Lib.hid (hoadd_any HT4.out x HXI.out.n0 HXI.out.s0)
      rw [← hM]
      clear hb4 hW4 hM p0 c0 c1 c2 c3 HT3 HB3
      go_wp2_with fail
      refine HAD.out.mono ?_
      rintro e W5 ⟨rfl, g', h1, h2, h3⟩
      have HOUT : Hid (TabAt W5 p g' (tabX (L.take (j + 1))) ∧ (∀ k, TFoot p g' k → w.heap.size ≤ k) ∧ Below w.heap.size w W5) := Lib.hid ⟨by rw [take_snoc HXK.out, tabX_snoc]; exact h1, fun k hk => by
          rcases hk with rfl | hk
          · exact HP.out
          · rcases h3 with e | ⟨_, h4⟩
            · rw [e] at hk; exact HG3.out k (.inr hk)
            · exact Nat.le_trans HB4.out.size (h4 k hk), HB4.out.trans (h2.below HB4.out.size (fun k hk => HG3.out k hk))⟩
      clear h1 h2 h3 d0 d1 d2 d3 HAD HT4
      dsimp only
      go_wp2
      go_roundw
      case rel => exact ⟨j + 1, g', by omega, by go_num, HOUT.out⟩
      case measure => simp [intOf]; omega
    · have HE : Hid (L.take j = L) := Lib.hid (List.take_of_length_le (by omega))
      rw [HE.out] at HT3
      go_wp2
      go_ret
      exact ⟨p, g, rfl, HT3.out, HG3.out, HB3.out⟩
/-- are holds few, and little? -/
def littleX (x : Hld) : Bool := decide (x.name.size ≤ 60) && decide (x.ser.size ≤ 60)
def fewX (L : List Hld) : Bool := L.all littleX && decide (L.length ≤ 20)
set_option maxHeartbeats 8000000 in
set_option maxRecDepth 100000 in
theorem exfew_any {w : World} {v : Value} {L : List Hld} (hv : HLies w v L) (hn : L.length ≤ 9223372036854775807) (hin : ∀ x ∈ L, x.In) :
    Calls Tryz.prog 8 #[v] w fun e w' => e = .returned (.bool (fewX L)) ∧ Below w.heap.size w w' := by
  obtain ⟨a, b, off, cap, rfl, hadr, hc⟩ := hv
  have HADR := Lib.hid hadr
  have HC := Lib.hid hc
  have HIN := Lib.hid hin
  clear hadr hc hin
  obtain ⟨R, hR⟩ : ∃ R, R = fewX L := ⟨_, rfl⟩
  rw [← hR]
  have HR := Lib.hid hR
  clear hR
  go_enter Tryz.func8, Tryz.ntmps8
  go_wp2_with fail
  go_loopw [7] (fun c wr => ∃ j : Nat, j ≤ L.length ∧ c = .int .i64 j ∧ (L.take j).all littleX = true ∧ Below w.heap.size w wr) (fun c _ => L.length - (intOf c).toNat)
  case atStart => exact ⟨0, Nat.zero_le _, rfl, rfl, Below.refl _ _⟩
  case round =>
    obtain ⟨j, hj, rfl, hall, hb⟩ := hrel
    obtain ⟨W3, hW3⟩ : ∃ W3, W3 = wr := ⟨_, rfl⟩
    subst hW3
    have HALL := Lib.hid hall
    have HB3 := Lib.hid hb
    clear hall hb
    by_cases hlt : j < L.length
    · have ea := HADR.out (by intro h; simp [h] at hlt)
      subst ea
      obtain ⟨x, hx⟩ : ∃ x, L[j]? = some x := ⟨L[j], List.getElem?_eq_getElem hlt⟩
      have HXK := Lib.hid hx
      have hxi := HIN.out x (List.mem_of_getElem? hx)
      have hn0 : x.name.size ≤ 9223372036854775807 := by have := hxi.n0; unfold maxLen at this; omega
      have hs0 : x.ser.size ≤ 9223372036854775807 := by have := hxi.s0; unfold maxLen at this; omega
      have hcW : ∀ i y, L[i]? = some y → ∀ j u, y.cells[j]? = some u → W3.cell? ⟨b, off + i * 4 + j, none⟩ = some u := fun i y hy j u hu => (HB3.out.cell (p := ⟨b, _, none⟩) (cell_lt (HC.out i y hy j u hu))).trans (HC.out i y hy j u hu)
      obtain ⟨c0, c1, c2, c3⟩ := HLies.cells (a := some ⟨b, off, none⟩) (c := 0) hcW hx rfl rfl
      have hmax : j < 9223372036854775807 := by omega
      clear hx hcW hxi
      go_upto_region 4 with fail
      refine wp_name fun W4 hW4 => ?_
      obtain ⟨M, hM⟩ : ∃ M, M = W3.heap.size := ⟨_, rfl⟩
      have hb4 : Below W3.heap.size W3 W4 := by rw [hW4.out]; exact (Below.refl _ _).alloc (Nat.le_refl _) _
      have HB4 := Lib.hid (HB3.out.trans (hb4.mono HB3.out.size))
      have p0 : W4.heap[M]? = some (.cells #[.string x.name, .string x.ser, .int .i64 x.a, .int .i64 x.b] 60 (0, 0)) := by rw [hW4.out, hM]; exact heap_alloc_new W3 _
      obtain ⟨d0, d1, d2, d3⟩ := hold_cells p0
      rw [← hM]
      clear hb4 hW4 hM p0 c0 c1 c2 c3 HB3
      by_cases h1 : 60 < x.name.size
      · have t1 : decide (60 < (x.name.size : Int)) = true := decide_eq_true (by omega)
        have HNO : Hid (R = false) := Lib.hid (by
          rw [HR.out]; unfold fewX
          rw [show L.all littleX = false from List.all_eq_false.2 ⟨x, List.mem_of_getElem? HXK.out, by unfold littleX; rw [decide_eq_false (by omega)]; simp⟩]; rfl)
        go_wp2
        go_ret
        exact ⟨by rw [HNO.out]; rfl, HB4.out⟩
      · have t1 : decide (60 < (x.name.size : Int)) = false := decide_eq_false (by omega)
        by_cases h2 : 60 < x.ser.size
        · have t2 : decide (60 < (x.ser.size : Int)) = true := decide_eq_true (by omega)
          have HNO : Hid (R = false) := Lib.hid (by
            rw [HR.out]; unfold fewX
            rw [show L.all littleX = false from List.all_eq_false.2 ⟨x, List.mem_of_getElem? HXK.out, by unfold littleX; rw [decide_eq_false (show ¬ x.ser.size ≤ 60 by omega)]; simp⟩]; rfl)
          go_wp2
          go_ret
          exact ⟨by rw [HNO.out]; rfl, HB4.out⟩
        · have t2 : decide (60 < (x.ser.size : Int)) = false := decide_eq_false (by omega)
          have HNX : Hid ((L.take (j + 1)).all littleX = true) := Lib.hid (by
            rw [take_snoc HXK.out, List.all_append, HALL.out]
            simp only [List.all_cons, List.all_nil, Bool.and_true, Bool.true_and]
            unfold littleX
            rw [decide_eq_true (by omega), decide_eq_true (by omega)]; rfl)
          go_wp2
          go_roundw
          case rel => exact ⟨j + 1, by omega, by go_num, HNX.out, HB4.out⟩
          case measure => simp [intOf]; omega
    · have HE : Hid (L.take j = L) := Lib.hid (List.take_of_length_le (by omega))
      have HRE : Hid (R = decide ((L.length : Int) ≤ 20)) := Lib.hid (by
        have h := HALL.out
        rw [HE.out] at h
        rw [HR.out]; unfold fewX; rw [h, Bool.true_and, decide_eq_decide]; omega)
      go_wp2
      go_ret
      exact ⟨by rw [HRE.out]; rfl, HB3.out⟩
end Go.Proofs.YthbdchleppbidaaGreat
