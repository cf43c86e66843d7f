/- Package hold: All: the holds of a table, rising by their names. -/
import Derived.Test.YtphgkkdpdiiioaaHoSort
import Derived.Test.YtphgkkdpdiiioaaHoApa
import Derived.Test.YtphgkkdpdiiioaaHoAt
namespace Go.Proofs.Ytphgkkdpdiiioaa
open Go.RowKit Go.Maps Go.Shelf

attribute [local go_sem] Oper.semAt_some

set_option maxRecDepth 1000000 in
set_option maxHeartbeats 8000000 in
theorem vals_none (n Bm : Nat) (w : World) (hB : w.heap[Bm]? = some (.cells #[.map none] 50 (0, 0))) :
    SeqStopsK Fence.wide n Try.prog 43 #[.pointer (some ⟨Bm, 0, none⟩)] (fun h : Hld => #[h.val]) KeepsWalks (fun xs => xs.Perm []) (fun _ => True) 0 w := fun id J Jx W hW hJ hJx hY h0 => by
  have hBW : W.cell? ⟨Bm, 0, none⟩ = some (.map none) := (cells1 ((hW.block Bm (lt_of_block hB)).trans hB)).1
  have hr := fun w => run_range_nilMap (P := Try.prog) w 50 _ _ mapT
  have hnx := run_next_nilMap (P := Try.prog) W
  have HJ1 : Hid (J [] (W.alloc (.mapIter none 0 #[] 0))) := Lib.hid (hJ [] W _ none h0 (World.grownBy_alloc _ _ _) (fun r e => by cases e))
  clear hB hJ hJx hY
  refine callsIn_of_wp Try.func43 rfl trivial ?_ rfl
  simp only [Try.ntmps43, List.size_toArray, List.length_cons, List.length_nil, Nat.reduceAdd, Nat.reduceSub, Array.replicate_succ, Array.replicate_zero, List.push_toArray, List.append_toArray, List.nil_append, List.cons_append]
  gi_wp2
  gi_loopw [4] (fun _ wr => wr = W.alloc (.mapIter none 0 #[] 0)) (fun _ _ => 0)
  case atStart => rfl
  case round =>
    subst hrel
    gi_wp2
    go_end0
    exact ⟨⟨_, rfl⟩, .inl ⟨[], .refl _, HJ1.out⟩⟩
/-- what comes of a map, there or not -/
theorem vals_any (n Bm : Nat) {w : World} {b : Option Nat} {m : List Hld} (hn : 1 ≤ n) (hB : w.heap[Bm]? = some (.cells #[.map b] 50 (0, 0))) (hi : ∀ g, b = some g → MapIs w g m) (h0 : b = none → m = []) (t : TabM m) :
    SeqStopsK Fence.wide n Try.prog 43 #[.pointer (some ⟨Bm, 0, none⟩)] (fun h : Hld => #[h.val]) KeepsWalks (fun xs => xs.Perm m) (fun _ => True) m.length w := by
  cases b with
  | some g => exact vals_some n Bm g w m hn hB (hi g rfl) t
  | none =>
    have hm := h0 rfl
    subst hm
    exact vals_none n Bm w hB
theorem horises_of {m xs : List Hld} (t : TabM m) (hp : xs.Perm m) (hs : xs.Pairwise fun x y => cmpT x.name y.name ≤ 0) : RisesH xs := by
  have hu : xs.Pairwise fun x y => x.name ≠ y.name := (hp.pairwise_iff (fun {x y} (hxy : x.name ≠ y.name) => Ne.symm hxy)).2 t.uniq
  refine (hs.and hu).imp fun {x y} ⟨h1, h2⟩ => ?_
  rcases Int.lt_or_eq_of_le h1 with h3 | h3
  · exact h3
  · exact absurd (cmpT_zero.1 h3) h2
set_option maxHeartbeats 4000000 in
theorem hosorted_any {w : World} {Bm : Nat} {b : Option Nat} {m : List Hld} (hB : w.heap[Bm]? = some (.cells #[.map b] 50 (0, 0))) (hi : ∀ g, b = some g → MapIs w g m) (h0 : b = none → m = []) (t : TabM m) :
    Calls Try.prog 31 #[.func (.func 43) #[] #[.pointer (some ⟨Bm, 0, none⟩)], .func (.func 33) #[] #[]] w fun e w' =>
      ∃ v xs, e = .returned v ∧ xs.Perm m ∧ RisesH xs ∧ HLies w' v xs ∧ (∀ k, v.ownBlock = some k → w.heap.size ≤ k ∧ k < w'.heap.size) ∧ Below w.heap.size w w' := by
  have HC := Lib.hid (hocollect_any (w := w) (m := m) (by have := t.few; omega) (vals_any 3 Bm (by omega) hB hi h0 t))
  have HS : Hid (∀ W v (l : List Hld), HoRow w.heap.size W v l → l.Perm m → Calls Try.prog 42 #[v, .func (.func 33) #[] #[]] W fun e w' => e = .returned (.tuple #[]) ∧ ∃ xs, xs.Perm l ∧ xs.Pairwise (fun x y => cmpT x.name y.name ≤ 0) ∧ HLies w' v xs ∧ Only (fun k => v.ownBlock = some k) W w') := Lib.hid fun W v l hr hp => hosort_any hr (by have := t.few; have := hp.length_eq; omega)
  have HT := Lib.hid t
  clear hB hi h0 t
  go_enter Try.func31, Try.ntmps31
  go_wp2_with fail
  refine HC.out.mono ?_
  rintro e W1 ⟨v, l, rfl, hr, hp, hb⟩
  have HR := Lib.hid hr
  have HP := Lib.hid hp
  have HB := Lib.hid hb
  have HS1 := Lib.hid (HS.out W1 v l hr hp)
  obtain ⟨a, c, ea⟩ := own_slice hr
  subst ea
  clear hr hp hb HC HS
  go_wp2_with fail
  refine HS1.out.mono ?_
  rintro e W2 ⟨rfl, xs, hp2, hs2, hl2, ho2⟩
  have HX : Hid (xs.Perm m ∧ RisesH xs) := Lib.hid ⟨hp2.trans HP.out, horises_of HT.out (hp2.trans HP.out) hs2⟩
  have HL2 := Lib.hid hl2
  have HO2 := Lib.hid ho2
  clear hp2 hs2 hl2 ho2
  go_wp2_with fail
  go_ret
  exact ⟨_, xs, rfl, HX.out.1, HX.out.2, HL2.out, fun k hk => ⟨(HR.out.lt k hk).1, Nat.lt_of_lt_of_le (HR.out.lt k hk).2 HO2.out.size⟩, HB.out.trans (HO2.out.below HB.out.size (fun k hk => (HR.out.lt k hk).1))⟩
theorem hovalues_any (w : World) (b : Option Nat) : Calls Try.prog 32 #[.map b] w fun e w' => e = .returned (.func (.func 43) #[] #[.pointer (some ⟨w.heap.size, 0, none⟩)]) ∧ w' = w.alloc (.cells #[.map b] 50) := by
  go_enter Try.func32, Try.ntmps32
  go_wp2_with fail
  go_ret
  exact ⟨rfl, rfl⟩
/-- what All hands back: a function over a list of its own -/
def AllAt (w w' : World) (m : List Hld) (v : Value) (B : Nat) (xs : List Hld) : Prop :=
  w'.heap[B]? = some (.cells #[v] 28 (0, 0)) ∧ w.heap.size ≤ B ∧ xs.Perm m ∧ RisesH xs ∧ HLies w' v xs ∧ (∀ k, v.ownBlock = some k → w.heap.size ≤ k ∧ k < w'.heap.size) ∧ Below w.heap.size w w'
theorem HLies.beyond {w w' : World} {v : Value} {l : List Hld} (h : HLies w v l) (hb : Below w.heap.size w w') : HLies w' v l := by
  obtain ⟨a, b, off, c, h1, h2, h3⟩ := h
  exact ⟨a, b, off, c, h1, h2, fun i x hx j u hu => (hb.cell (p := ⟨b, _, none⟩) (cell_lt (h3 i x hx j u hu))).trans (h3 i x hx j u hu)⟩
theorem HLies.slice {w : World} {v : Value} {l : List Hld} (h : HLies w v l) : ∃ a c, v = .slice a l.length c := by
  obtain ⟨a, b, off, c, h1, _⟩ := h
  exact ⟨a, c, h1⟩
set_option maxHeartbeats 4000000 in
theorem hoall_of {w : World} {rv : Value} {b : Option Nat} {m : List Hld} (hh : Calls Try.prog 24 #[rv] w fun e w' => e = .returned (.map b) ∧ w' = w) (hi : ∀ g, b = some g → MapIs w g m) (h0 : b = none → m = []) (t : TabM m) :
    Calls Try.prog 18 #[rv] w fun e w' => ∃ B v xs, e = .returned (.func (.func 35) #[] #[.pointer (some ⟨B, 0, none⟩)]) ∧ AllAt w w' m v B xs := by
  have HH := Lib.hid hh
  have HV := Lib.hid (hovalues_any w b)
  have hb0 : Below w.heap.size w (w.alloc (.cells #[.map b] 50)) := (Below.refl _ _).alloc (Nat.le_refl _) _
  have HS := Lib.hid (hosorted_any (w := w.alloc (.cells #[.map b] 50)) (Bm := w.heap.size) (b := b) (m := m) (heap_alloc_new w _) (fun g hg => (hi g hg).below hb0) h0 t)
  have HB0 := Lib.hid hb0
  clear hh hi h0 t hb0
  go_enter Try.func18, Try.ntmps18
  go_wp2_with (first | (go_at_call 24; refine (HH.out).mono ?_; rintro e W1 ⟨rfl, hw1⟩; replace hw1 := hw1.symm; subst hw1) | (go_at_call 32; refine (HV.out).mono ?_; rintro e W1 ⟨rfl, rfl⟩) | (go_at_call 31; refine (HS.out).mono ?_; rintro e W2 ⟨v, xs, rfl, hp, hs, hl, hk, hb⟩; have HP := Lib.hid hp; have HRI := Lib.hid hs; have HL := Lib.hid hl; have HK := Lib.hid hk; have HB := Lib.hid (HB0.out.trans (hb.mono HB0.out.size)); obtain ⟨a, c, ea⟩ := hl.slice; obtain ⟨n, hn⟩ : ∃ n, n = xs.length := ⟨_, rfl⟩; rw [← hn] at ea; subst ea; clear hp hs hl hk hb hn))
  go_ret
  refine ⟨W2.heap.size, _, xs, rfl, heap_alloc_new W2 _, HB.out.size, HP.out, HRI.out, HL.out.beyond ((Below.refl _ _).alloc (Nat.le_refl _) _), fun k hk => ?_, HB.out.alloc HB.out.size _⟩
  have h1 := HK.out k hk
  have h2 := HB0.out.size
  simp
  omega
theorem hoall_any {w : World} {p : Nat} {b : Option Nat} {m : List Hld} (h : TabAt w p b m) (t : TabM m) :
    Calls Try.prog 18 #[.pointer (some ⟨p, 0, none⟩)] w fun e w' => ∃ B v xs, e = .returned (.func (.func 35) #[] #[.pointer (some ⟨B, 0, none⟩)]) ∧ AllAt w w' m v B xs := hoall_of (hoheld_any h) h.own h.nil0 t
theorem hoall_none (w : World) :
    Calls Try.prog 18 #[.pointer none] w fun e w' => ∃ B v xs, e = .returned (.func (.func 35) #[] #[.pointer (some ⟨B, 0, none⟩)]) ∧ AllAt w w' [] v B xs := hoall_of (hoheld_none w) (fun g h => by cases h) (fun _ => rfl) TabM.nil
end Go.Proofs.Ytphgkkdpdiiioaa
