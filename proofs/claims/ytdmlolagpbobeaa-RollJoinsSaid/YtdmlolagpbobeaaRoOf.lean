/- Package roll: Of. -/
import Derived.Test.YtdmlolagpbobeaaRoAdd
import Derived.Test.YtdmlolagpbobeaaPtRow
namespace Go.Proofs.Ytdmlolagpbobeaa
open Go.RowKit

/-- what Of tells -/
def ofR (k : Int) (l : List Pt) : Ag := if l = [] then zeroAg else ofA k l
theorem ofR_told (k : Int) (l : List Pt) : (if 0 < (ofA k l).n then agV (ofA k l) else agV zeroAg) = agV (ofR k l) ∧ decide (0 < (ofA k l).n) = !l.isEmpty := by
  rw [ofA_n]
  unfold ofR
  cases l with
  | nil => exact ⟨rfl, rfl⟩
  | cons p r =>
    have h : (0 : Int) < ((p :: r).length : Nat) := by rw [List.length_cons]; omega
    rw [if_pos h, if_neg (by simp), decide_eq_true h]
    exact ⟨rfl, rfl⟩
set_option maxHeartbeats 8000000 in
set_option maxRecDepth 100000 in
theorem roof_any {w : World} {k : Int} (hk0 : -9223372036854775808 ≤ k) (hk1 : k ≤ 9223372036854775807) {v : Value} {l : List Pt} (hv : PLies w v l) (hf : ∀ p ∈ l, p.fits) (hl : l.length ≤ 1000000000) :
    Calls Try.prog 9 #[.int .i64 k, v] w fun e w' => e = .returned (.tuple #[agV (ofR k l), .bool (!l.isEmpty)]) ∧ Below w.heap.size w w' := by
  obtain ⟨a, b, off, cap, rfl, hadr, hpts⟩ := hv
  have HADR := Lib.hid hadr
  have HP := Lib.hid hpts
  have HF := Lib.hid hf
  have HL : Hid (l.length < 9223372036854775807) := Lib.hid (by omega)
  have HK := Lib.hid (And.intro hk0 hk1)
  have HTO := Lib.hid (ofR_told k l)
  have hlen : l.length ≤ 9223372036854775807 := by have := HL.out; omega
  clear hadr hpts hf hl hk0 hk1
  obtain ⟨G, hG⟩ : ∃ G, G = ofR k l := ⟨_, rfl⟩
  obtain ⟨S, hS⟩ : ∃ S, S = !l.isEmpty := ⟨_, rfl⟩
  rw [← hG, ← hS] at HTO ⊢
  clear hG hS
  go_enter Try.func9, Try.ntmps9
  go_upto_region 2 with fail
  refine wp_name fun W1 hW1 => ?_
  obtain ⟨N, hN⟩ : ∃ N, N = w.heap.size := ⟨_, rfl⟩
  obtain ⟨h1, h2, h3⟩ := two_new w zeroAg (noAg k) hW1.out
  have HN := Lib.hid hN
  rw [← hN] at h1 h2 ⊢
  have H1 := Lib.hid h1
  have H2 := Lib.hid h2
  have H3 := Lib.hid h3
  clear h1 h2 h3 hW1 hN
  go_wp2_with fail
  go_loopw [13] (fun c wr => ∃ j : Nat, j ≤ l.length ∧ c = .int .i64 j ∧ AgAt wr N zeroAg ∧ AgAt wr (N + 1) (ofA k (l.take j)) ∧ Below w.heap.size w wr) (fun c _ => l.length - (intOf c).toNat)
  case atStart => exact ⟨0, Nat.zero_le _, rfl, H1.out, H2.out, H3.out⟩
  case round =>
    obtain ⟨j, hj, rfl, hz, ho, hb⟩ := hrel
    obtain ⟨W3, hW3⟩ : ∃ W3, W3 = wr := ⟨_, rfl⟩
    subst hW3
    have HZ3 := Lib.hid hz
    have HO3 := Lib.hid ho
    have HB3 := Lib.hid hb
    have HP3 := Lib.hid (HP.out.beyond hb)
    clear hz ho hb H1 H2 H3
    by_cases hlt : j < l.length
    · have ea := HADR.out (by intro h; simp [h] at hlt)
      subst ea
      obtain ⟨p, hp⟩ : ∃ p, l[j]? = some p := ⟨l[j], List.getElem?_eq_getElem hlt⟩
      obtain ⟨c0, c1⟩ := HP3.out j p hp
      have HPK := Lib.hid hp
      clear hp
      go_upto_region 5 with fail
      refine wp_name fun W4 hW4 => ?_
      obtain ⟨M, hM⟩ : ∃ M, M = W3.heap.size := ⟨_, rfl⟩
      have hb4 : Below W3.heap.size W3 W4 := by rw [hW4.out]; exact (Below.refl _ _).alloc (Nat.le_refl _) _
      have HZ4 := Lib.hid (HZ3.out.keep hb4)
      have HO4 := Lib.hid (HO3.out.keep hb4)
      have HB4 := Lib.hid (HB3.out.trans (hb4.mono HB3.out.size))
      have p1 : W4.cell? ⟨M, 1, none⟩ = some (.int .i64 p.v) := by rw [hW4.out, hM]; exact (cells2 (heap_alloc_new W3 _)).2.1
      rw [← hM]
      clear hb4 hW4 hM c0 c1 HZ3 HO3 HP3
      obtain ⟨A, hA⟩ : ∃ A, A = ofA k (l.take j) := ⟨_, rfl⟩
      obtain ⟨A', hA'⟩ : ∃ A', A' = ofA k (l.take (j + 1)) := ⟨_, rfl⟩
      have HAF : Hid (A.fits) := Lib.hid (by rw [hA]; exact ofA_fits HK.out.1 HK.out.2 (fun p hp => HF.out p (List.mem_of_mem_take hp)) (by rw [List.length_take]; have := HL.out; omega))
      have HAA : Hid (addA A p.v = A') := Lib.hid (by rw [hA, hA', take_snoc HPK.out]; exact ofA_add (by rw [List.length_take]; have := HL.out; omega))
      have HPF := HF.out p (List.mem_of_getElem? HPK.out)
      have hcall := roadd_any W4 HAF.out HPF.2.2.1 HPF.2.2.2
      rw [HAA.out] at hcall
      have HCA := Lib.hid hcall
      rw [← hA] at HO4
      have HAE := Lib.hid hA'
      clear hcall hA HPF hA'
      obtain ⟨z0, z1, z2, z3, z4, g0, g1, g2, g3, g4⟩ := HO4.out.cells
      go_wp2_with fail
      refine (HCA.out).mono ?_
      rintro e W5 ⟨rfl, hb5⟩
      have HZ5 := Lib.hid (HZ4.out.keep hb5)
      have HO5 := Lib.hid (HO4.out.keep hb5)
      have HB5 := Lib.hid (HB4.out.trans (hb5.mono HB4.out.size))
      clear hb5 z0 z1 z2 z3 z4 g0 g1 g2 g3 g4 HZ4 HO4 HB4 p1
      unfold agV
      obtain ⟨z0, z1, z2, z3, z4, g0, g1, g2, g3, g4⟩ := HO5.out.cells
      go_wp2_with fail
      have h9 := setAg_at HO5.out A'
      have h8 := HB5.out.trans ((setAg_only W5 (N + 1) A').below HB5.out.size (fun k hk => by have := HN.out; omega))
      have h7 := HZ5.out.only (setAg_only W5 (N + 1) A') (by omega)
      have HREL : Hid (AgAt (setAg W5 (N + 1) A') N zeroAg ∧ AgAt (setAg W5 (N + 1) A') (N + 1) (ofA k (l.take (j + 1))) ∧ Below w.heap.size w (setAg W5 (N + 1) A')) := Lib.hid ⟨h7, by rw [← HAE.out]; exact h9, h8⟩
      clear h7 h8 h9
      go_roundw
      case rel => exact ⟨j + 1, by omega, by go_num, HREL.out⟩
      case measure => simp [intOf]; omega
    · obtain rfl : j = l.length := by omega
      obtain ⟨A, hA⟩ : ∃ A, A = ofA k l := ⟨_, rfl⟩
      have HO4 : Hid (AgAt W3 (N + 1) A) := Lib.hid (by have h := HO3.out; rw [List.take_of_length_le (Nat.le_refl _)] at h; rw [hA]; exact h)
      have hcall := rotold_any W3 A
      obtain ⟨e1, e2⟩ := HTO.out
      rw [← hA] at e1 e2
      rw [e1, e2] at hcall
      have HCA := Lib.hid hcall
      clear hcall hA e1 e2
      obtain ⟨z0, z1, z2, z3, z4, -, -, -, -, -⟩ := HO4.out.cells
      go_wp2_with fail
      refine (HCA.out).mono ?_
      rintro e W5 ⟨rfl, hb5⟩
      have HZ5 := Lib.hid (HZ3.out.keep hb5)
      have HB5 := Lib.hid (HB3.out.trans (hb5.mono HB3.out.size))
      clear hb5 z0 z1 z2 z3 z4 HO4 HO3 HZ3 HB3 HP3
      dsimp only
      unfold agV
      obtain ⟨z0, z1, z2, z3, z4, g0, g1, g2, g3, g4⟩ := HZ5.out.cells
      go_wp2
      refine bodyPost_ret (ret_ag2 (Q := N) (t := G) rfl rfl (setAg_at HZ5.out G)) rfl ?_
      exact ⟨rfl, HB5.out.trans ((setAg_only W5 N G).below HB5.out.size (fun k hk => by have := HN.out; omega))⟩
end Go.Proofs.Ytdmlolagpbobeaa
