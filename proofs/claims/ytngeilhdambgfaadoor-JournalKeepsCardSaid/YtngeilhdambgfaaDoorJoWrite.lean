/- A record written; committed. -/
import Derived.Test.YtngeilhdambgfaaDoorJoPut
import Derived.Test.YtngeilhdambgfaaDoorDvFlush
namespace Go.Proofs.YtngeilhdambgfaaDoor
open Go.RowKit

/-- of the old blocks just the journal's and its device's are written -/
structure JKept (J P : Nat) (w w' : World) : Prop where
  only : Only (fun q => q = J ∨ DBlk w P q) w w'
  own : ∀ k, DBlk w' P k → DBlk w P k ∨ w.heap.size ≤ k
theorem Kept.jo {J P : Nat} {w w' : World} (h : Kept P w w') : JKept J P w w' := ⟨h.only.mono (fun _ _ hk => .inr hk), h.own⟩
theorem JKept.trans {J P : Nat} {a b c : World} (h : JKept J P a b) (k : JKept J P b c) : JKept J P a c :=
  ⟨h.only.trans k.only (fun i hi ht => ht.elim .inl (fun ht => (h.own i ht).elim .inr fun h1 => absurd hi (by omega))), fun i hi => (k.own i hi).elim (h.own i) fun h1 => .inr (Nat.le_trans h.only.size h1)⟩
/-- the journal's block set anew -/
theorem jkept_set {w w' : World} {B J P : Nat} {d : Dev} (h : DevAt w B P d) (hJ : ¬ DBlk w P J) (ho : Only (fun q => q = J) w w') : JKept J P w w' ∧ DevAt w' B P d := by
  have h' : DevAt w' B P d := h.only ho (fun k hk e => hJ (e ▸ hk))
  obtain ⟨g1, g2, wv, h⟩ := h
  have hP : P < w.heap.size := h.blk.lt
  have hPJ : P ≠ J := fun e => hJ (e ▸ h.isP)
  refine ⟨⟨ho.mono (fun _ _ hk => .inl hk), fun k hk => .inl ?_⟩, h'⟩
  rcases hk with h1 | ⟨i, v, hi, hv, hk⟩
  · exact .inl h1
  · exact .inr ⟨i, v, hi, by rw [← hv]; exact (World.cell?_of_block (a := ⟨P, i, none⟩) (ho.block P hP (fun e => hPJ e))).symm, hk⟩
theorem JAt.used {w : World} {J P frm n t k : Nat} (h : JAt w J P frm n t k) (k' : Nat) : JAt (w.setCell ⟨J, 4, none⟩ (.int .i64 (k' : Int))) J P frm n t k' := by
  have := Arr.set h 4 (.int .i64 (k' : Int))
  exact this
theorem jowrite_end {w w2 : World} {B J P frm n t k pc : Nat} {d : Dev} (hd : DevAt w2 B P d) (hk : Kept P w w2) (hJ : JAt w2 J P frm n t k) (hJd : ¬ DBlk w2 P J) :
    DevAt (w2.setCell ⟨J, 4, none⟩ (.int .i64 ((k : Int) + (pc : Int)))).drew B P d ∧ JAt (w2.setCell ⟨J, 4, none⟩ (.int .i64 ((k : Int) + (pc : Int)))).drew J P frm n t (k + pc) ∧ JKept J P w (w2.setCell ⟨J, 4, none⟩ (.int .i64 ((k : Int) + (pc : Int)))).drew := by
  have hA := JAt.used hJ (k + pc)
  rw [Int.natCast_add] at hA
  have ho : Only (fun q => q = J) w2 (w2.setCell ⟨J, 4, none⟩ (.int .i64 ((k : Int) + (pc : Int)))) := Only.setCell (S := fun q => q = J) _ (p := ⟨J, 4, none⟩) rfl _
  obtain ⟨k1, d1⟩ := jkept_set hd hJd ho
  exact ⟨d1.drew, hA.only (Only.drew (fun _ => False) _) (fun h => h), (hk.jo.trans k1).trans (kept_drew P _).jo⟩
set_option maxRecDepth 1000000 in
set_option maxHeartbeats 4000000 in
theorem jowrite_full {w : World} {J P frm n t k : Nat} {D : List Nat} {v : Value} (hJ : JAt w J P frm n t k) (hv : Lies w v D) (hk : k ≤ n) (hn : n ≤ 8192) (hbig : D.length ≤ 1000000000) (hf : n < k + pieces D.length) :
    Calls Tryd.prog 12 #[.pointer (some ⟨J, 0, none⟩), v] w fun e w' => e = .returned (.int .i64 6) ∧ Below w.heap.size w w' := by
  have HP := Lib.hid (joput_full hJ hv hk hn hbig hf)
  clear hJ hv hf
  go_enter Tryd.func12, Tryd.ntmps12
  go_wp2_with (go_at_call 23; refine (HP.out).mono ?_; rintro e w2 ⟨rfl, hb⟩; have HB := Lib.hid hb; clear hb)
  go_ret
  exact ⟨rfl, HB.out⟩
set_option maxRecDepth 1000000 in
set_option maxHeartbeats 4000000 in
theorem jocommit_full {w : World} {J P frm n t k : Nat} {D : List Nat} {v : Value} (hJ : JAt w J P frm n t k) (hv : Lies w v D) (hk : k ≤ n) (hn : n ≤ 8192) (hbig : D.length ≤ 1000000000) (hf : n < k + pieces D.length) :
    Calls Tryd.prog 11 #[.pointer (some ⟨J, 0, none⟩), v] w fun e w' => e = .returned (.int .i64 6) ∧ Below w.heap.size w w' := by
  have HP := Lib.hid (joput_full hJ hv hk hn hbig hf)
  clear hJ hv hf
  go_enter Tryd.func11, Tryd.ntmps11
  go_wp2_with (go_at_call 23; refine (HP.out).mono ?_; rintro e w2 ⟨rfl, hb⟩; have HB := Lib.hid hb; clear hb)
  go_ret
  exact ⟨rfl, HB.out⟩
set_option maxRecDepth 1000000 in
set_option maxHeartbeats 8000000 in
theorem jowrite_ok {w : World} {B J P frm n t k : Nat} {d : Dev} {D : List Nat} {v : Value} (hJ : JAt w J P frm n t k) (h : DevAt w B P d) (hB : B ≤ w.heap.size) (hgB : 0 < B) (hJd : ¬ DBlk w P J) (hv : Lies w v D) (hD : ∀ x ∈ D, x < 256) (ht : t ≠ 0 ∧ t < 4294967296)
    (hr : frm + n ≤ d.lies.length) (hup : d.down = false) (ha : d.after = 0) (hm : d.waits.length ≤ 900000000) (hl : StepsLaid w) (hf : k + pieces D.length ≤ n) :
    Calls Tryd.prog 12 #[.pointer (some ⟨J, 0, none⟩), v] w fun e w' => e = .returned (.int .i64 0) ∧ DevAt w' B P (d.writes (frm + k) ((splitS t k D).map secB)) ∧ JAt w' J P frm n t (k + pieces D.length) ∧ JKept J P w w' := by
  have HP := Lib.hid (joput_ok hJ h hB hgB hJd hv hD ht hr hup ha hm hl hf)
  obtain ⟨a, c, rfl⟩ := lies_len hv
  have hN : d.lies.length ≤ 8192 := h.ok.size
  obtain ⟨l, hl0⟩ : ∃ l, l = D.length := ⟨_, rfl⟩
  obtain ⟨pc, hpc⟩ : ∃ p, p = pieces D.length := ⟨_, rfl⟩
  have HPC : Hid (pc = pieces l ∧ pc = pieces D.length) := Lib.hid (by rw [hl0]; exact ⟨hpc, hpc⟩)
  have hbig : l ≤ 1000000000 := by rw [hpc.symm] at hf; have := HPC.out.1; unfold pieces at this; omega
  rw [← hpc] at hf ⊢
  rw [← hl0] at HP ⊢
  have HJ := Lib.hid hJ
  have HD := Lib.hid h
  have HJD := Lib.hid hJd
  have e1 : IntKind.i64.wrap ((k : Int) + (pc : Int)) = ((k + pc : Nat) : Int) := by rw [IntKind.wrap_i64]; omega
  obtain ⟨d2, hd2⟩ : ∃ d2, d2 = d.writes (frm + k) ((splitS t k D).map secB) := ⟨_, rfl⟩
  rw [← hd2] at HP ⊢
  clear hJ h hJd hv hD ht hr hl hl0 hpc hd2
  go_enter Tryd.func12, Tryd.ntmps12
  go_wp2_with (go_at_call 23; refine (HP.out).mono ?_; rintro e w2 ⟨rfl, hd3, hk3⟩; have HD3 := Lib.hid hd3; have HK3 := Lib.hid hk3; clear hd3 hk3; dsimp only)
  have HJ2 : Hid (JAt w2 J P frm n t k) := Lib.hid (HJ.out.only HK3.out.only HJD.out)
  have HJD2 : Hid (¬ DBlk w2 P J) := Lib.hid (fun hh => (HK3.out.own J hh).elim HJD.out (fun h1 => by have := Arr.lt HJ.out; omega))
  obtain ⟨c0, c1, c2, c3, c4⟩ := HJ2.out.cells
  have f4 := Arr.free HJ2.out 4
  go_region_with (go_at_call 21; refine (jcost_any _ (m := l) (by omega)).mono ?_; rw [← HPC.out.1]; rintro e w1 ⟨rfl, rfl⟩; dsimp only)
  all_goals (try simp only [List.getElem_toArray, List.getElem_cons_succ, List.getElem_cons_zero, Act.put, List.setIfInBounds_toArray, List.set_cons_succ, List.set_cons_zero])
  all_goals go_wp2
  all_goals go_ret
  all_goals exact ⟨rfl, jowrite_end HD3.out HK3.out HJ2.out HJD2.out⟩
set_option maxRecDepth 1000000 in
set_option maxHeartbeats 8000000 in
theorem jocommit_ok {w : World} {B J P frm n t k : Nat} {d : Dev} {D : List Nat} {v : Value} (hJ : JAt w J P frm n t k) (h : DevAt w B P d) (hB : B ≤ w.heap.size) (hgB : 0 < B) (hJd : ¬ DBlk w P J) (hv : Lies w v D) (hD : ∀ x ∈ D, x < 256) (ht : t ≠ 0 ∧ t < 4294967296)
    (hr : frm + n ≤ d.lies.length) (hup : d.down = false) (ha : d.after = 0) (hm : d.waits.length ≤ 900000000) (hl : StepsLaid w) (hf : k + pieces D.length ≤ n) :
    Calls Tryd.prog 11 #[.pointer (some ⟨J, 0, none⟩), v] w fun e w' => e = .returned (.int .i64 0) ∧ DevAt w' B P (d.writes (frm + k) ((splitS t k D).map secB)).flush ∧ JAt w' J P frm n t (k + pieces D.length) ∧ JKept J P w w' := by
  have HP := Lib.hid (joput_ok hJ h hB hgB hJd hv hD ht hr hup ha hm hl hf)
  obtain ⟨a, c, rfl⟩ := lies_len hv
  have hN : d.lies.length ≤ 8192 := h.ok.size
  obtain ⟨l, hl0⟩ : ∃ l, l = D.length := ⟨_, rfl⟩
  obtain ⟨pc, hpc⟩ : ∃ p, p = pieces D.length := ⟨_, rfl⟩
  have HPC : Hid (pc = pieces l ∧ pc = pieces D.length) := Lib.hid (by rw [hl0]; exact ⟨hpc, hpc⟩)
  have hbig : l ≤ 1000000000 := by rw [hpc.symm] at hf; have := HPC.out.1; unfold pieces at this; omega
  rw [← hpc] at hf ⊢
  rw [← hl0] at HP ⊢
  have HJ := Lib.hid hJ
  have HD := Lib.hid h
  have HJD := Lib.hid hJd
  have e1 : IntKind.i64.wrap ((k : Int) + (pc : Int)) = ((k + pc : Nat) : Int) := by rw [IntKind.wrap_i64]; omega
  obtain ⟨d2, hd2⟩ : ∃ d2, d2 = d.writes (frm + k) ((splitS t k D).map secB) := ⟨_, rfl⟩
  have hup2 : d2.down = false := by rw [hd2]; exact hup
  rw [← hd2] at HP ⊢
  clear hJ h hJd hv hD ht hr hl hl0 hpc hd2
  go_enter Tryd.func11, Tryd.ntmps11
  go_wp2_with (first | (go_at_call 23; refine (HP.out).mono ?_; rintro e w2 ⟨rfl, hd3, hk3⟩; have c0 := (JAt.cells (HJ.out.only hk3.only HJD.out)).1; have HD3 := Lib.hid hd3; have HK3 := Lib.hid hk3; clear hd3 hk3; dsimp only) | (go_at_call 24; refine (flush_ok HD3.out hup2).mono ?_; rintro e w4 ⟨rfl, hd4, hk4⟩; have HD4 := Lib.hid hd4; have HK4 := Lib.hid hk4; clear hd4 hk4 c0; dsimp only))
  have HJ2 : Hid (JAt w2 J P frm n t k) := Lib.hid (HJ.out.only HK3.out.only HJD.out)
  have HJD2 : Hid (¬ DBlk w2 P J) := Lib.hid (fun hh => (HK3.out.own J hh).elim HJD.out (fun h1 => by have := Arr.lt HJ.out; omega))
  have HK5 : Hid (Kept P w w4) := Lib.hid (HK3.out.trans HK4.out)
  have HJ4 : Hid (JAt w4 J P frm n t k) := Lib.hid (HJ2.out.only HK4.out.only HJD2.out)
  have HJD4 : Hid (¬ DBlk w4 P J) := Lib.hid (fun hh => (HK4.out.own J hh).elim HJD2.out (fun h1 => by have := Arr.lt HJ2.out; omega))
  obtain ⟨c0, c1, c2, c3, c4⟩ := HJ4.out.cells
  have f4 := Arr.free HJ4.out 4
  go_region_with (go_at_call 21; refine (jcost_any _ (m := l) (by omega)).mono ?_; rw [← HPC.out.1]; rintro e w1 ⟨rfl, rfl⟩; dsimp only)
  all_goals (try simp only [List.getElem_toArray, List.getElem_cons_succ, List.getElem_cons_zero, Act.put, List.setIfInBounds_toArray, List.set_cons_succ, List.set_cons_zero])
  all_goals go_wp2
  all_goals go_ret
  all_goals exact ⟨rfl, jowrite_end HD4.out HK5.out HJ4.out HJD4.out⟩
end Go.Proofs.YtngeilhdambgfaaDoor
