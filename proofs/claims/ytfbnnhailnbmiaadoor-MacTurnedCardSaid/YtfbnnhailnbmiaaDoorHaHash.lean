/- The digest of bytes; of no state. -/
import Derived.Test.YtfbnnhailnbmiaaDoorHaSum
namespace Go.Proofs.YtfbnnhailnbmiaaDoor
open Go.RowKit Go.Deep Go.ChangeShapes Go.WideShapes

/-- a slice whose length its capacity holds -/
def Fits (v : Value) : Prop := ∀ a m c, v = .slice a m c → m ≤ c
theorem fits_slice {a : Option Addr} {m c : Nat} (h : m ≤ c) : Fits (.slice a m c) := fun _ _ _ e => by cases e; exact h
theorem off_of {w W : World} {P : Nat} {v : Value} {bs : List Nat} (hv : Lies w v bs) (hf : Fits v) (hb : Below w.heap.size w W) (hP : w.heap.size ≤ P) : Off W P v bs := by
  rcases hv with ⟨rfl, rfl⟩ | ⟨ad, c, rfl, rfl⟩ | ⟨b, off, c, rfl, h2⟩
  · exact .inl ⟨_, _, rfl, rfl⟩
  · exact .inl ⟨_, _, rfl, rfl⟩
  · by_cases hne : bs = []
    · subst hne; exact .inl ⟨_, _, rfl, rfl⟩
    · have hlt : b < w.heap.size := cell_lt (h2 0 (List.length_pos_iff.2 hne))
      exact .inr ⟨b, off, c, rfl, h2.below hb hlt, by omega, hne, hf _ _ _ rfl⟩
theorem open_lies2 {H : Type} {enc : TypeId × Value → H} {W : World} {spare : Nat → Bool} {held : Bool} {v : Value} {d : DataW H} {ps : List MemPlace} {r : Reach} {b0 : Nat} (hval : Value.okWide Tryd.prog W r b0 22 v)
    (hd : DataW.Trod enc Tryd.prog W 0 spare held 22 v d ps) : ∃ l : List Nat, Lies W v l ∧ Fits v ∧ (∀ x ∈ l, x < 256) ∧ l.length ≤ maxLen := by
  obtain ⟨l, h1, h2, h3⟩ := open_lies hval hd
  refine ⟨l, h1, ?_, h2, h3⟩
  obtain ⟨a, len, cap, rfl⟩ := okWide_slice Tryd.underlying22 hval
  obtain ⟨fuel, hf⟩ := hd
  refine fits_slice ?_
  rcases open_ints Tryd.underlying22 Tryd.underlying5 cellsU8 hf with ⟨hcs, _⟩ | ⟨ad, len', cap', zs, hcs, h4, hl, hm, hz, h5, hcell, hw⟩
  · simp [Value.cells] at hcs
    omega
  · simp [Value.cells] at hcs
    obtain ⟨rfl, rfl, rfl⟩ := hcs
    first | exact hl | omega

theorem dig_row (bs : List Nat) : ∃ L : List Value, L = u8s (digest bs) ∧ L.toArray.size = 32 ∧ L.toArray.all (·.oneCell') = true :=
  ⟨_, rfl, by simp [u8s_length, digest, tell_length], all_one (u8s_one _)⟩

set_option maxHeartbeats 4000000 in
set_option maxRecDepth 1000000 in
theorem hsum_any {w : World} {v : Value} {bs : List Nat} (hv : Lies w v bs) (hf : Fits v) (hb : ∀ x ∈ bs, x < 256) (hn : bs.length < 100000000) (htab : Tabs w) :
    Calls Tryd.prog 20 #[v] w fun e w' => e = .returned (.agg (u8s (digest bs)).toArray) ∧ Below w.heap.size w w' := by
  obtain ⟨L, hL, hLz, hLA⟩ := dig_row bs
  rw [← hL]
  have HI32 : Hid ((Tryd.prog.info? 25).map (·.size) = some L.toArray.size) := Lib.hid (by rw [hLz]; kernel_rfl)
  have HAL32 := Lib.hid hLA
  have HSZ32 : Hid ((u8s (List.replicate 32 0)).toArray.size = L.toArray.size) := Lib.hid (by rw [hLz]; rfl)
  have HSUM : Hid (∀ W P, St W P bs → Tabs W → Calls Tryd.prog 23 #[.pointer (some ⟨P, 0, none⟩)] W fun e w' => e = .returned (.agg L.toArray) ∧ Below W.heap.size W w') := Lib.hid fun W P h1 h2 => by rw [hL]; exact sum_any h1 (by omega) h2
  have HV := Lib.hid hv
  have HF := Lib.hid hf
  have HB := Lib.hid hb
  have HT := Lib.hid htab
  have HN := Lib.hid hn
  clear hL hLz hLA hv hf hb htab hn
  go_enter Tryd.func20, Tryd.ntmps20
  repeat (first | (go_at_call 21; refine calls_name ?_; intro W1 hW1; have HR1 := Lib.hid (show Arr W1 w.heap.size 25 (u8s (List.replicate 32 0)) by rw [hW1.out]; exact arr_new w _ (u8s (List.replicate 32 0))); have HB1 := Lib.hid (show Below w.heap.size w W1 by rw [hW1.out]; exact (Below.refl _ _).alloc (Nat.le_refl _) _); clear hW1; refine (new_any W1 (HT.out.keep HB1.out)).mono ?_; rintro e W2 ⟨rfl, hst2, hb2⟩; have HS2 := Lib.hid hst2; have HB2 := Lib.hid hb2; clear hst2 hb2; dsimp only) | (go_at_call 22; have HBW2 := Lib.hid (HB1.out.trans (HB2.out.mono HB1.out.size)); refine (write_any HS2.out (off_of HV.out HF.out HBW2.out HB1.out.size) HB.out (by have := HN.out; simp; omega) (HT.out.keep HBW2.out) (by have := HT.out.lt0; have := HB1.out.size; omega) (by have := HT.out.lt1; have := HB1.out.size; omega)).mono ?_; rintro e W3 ⟨rfl, hst3, ho3⟩; have HS3 := Lib.hid (show St W3 W1.heap.size bs by simpa using hst3); have HBW3 : Hid (Below w.heap.size w W3) := Lib.hid (HBW2.out.trans (ho3.below (by have := HBW2.out.size; omega) (fun k hk => by have := HB1.out.size; omega))); have HR3 := Lib.hid (((HR1.out.only (only_beyond (S := fun _ => False) HB2.out) (fun h => h)).only ho3 (by have := HR1.out.lt; omega))); clear hst3 ho3; dsimp only) | (go_at_call 23; refine (HSUM.out _ _ HS3.out (HT.out.keep HBW3.out)).mono ?_; rintro e W4 ⟨rfl, hb4⟩; have HR4 := Lib.hid (HR3.out.only (only_beyond (S := fun _ => False) hb4) (fun h => h)); have HBW4 : Hid (Below w.heap.size w W4) := Lib.hid (HBW3.out.trans (hb4.mono HBW3.out.size)); clear hb4; dsimp only) | (refine wpList_store_row rfl 25 (.tmp 2) (.tmp 9) rfl w.heap.size L.toArray rfl rfl 25 (u8s (List.replicate 32 0)).toArray HR4.out HI32.out HSZ32.out HAL32.out ?_) | go_values | go_skip | go_guarded | go_step | go_upon)
  (try simp only [Exit.inBlock, Exit.then])
  refine bodyPost_ret (results_cell_row rfl _ _ w.heap.size 25 L.toArray (0, 0) _ rfl (setRow_heap W4 w.heap.size _ L.toArray _ _ HR4.out) Tryd.underlying25 rfl HI32.out) rfl ?_
  exact ⟨rfl, below_setRow HBW4.out (by omega) _⟩

set_option maxHeartbeats 4000000 in
set_option maxRecDepth 1000000 in
theorem sum_none (w : World) (htab : Tabs w) :
    Calls Tryd.prog 23 #[.pointer none] w fun e w' => e = .returned (.agg (u8s (digest [])).toArray) ∧ Below w.heap.size w w' := by
  obtain ⟨L, hL, hLz, hLA⟩ := dig_row []
  rw [← hL]
  have HI32 : Hid ((Tryd.prog.info? 25).map (·.size) = some L.toArray.size) := Lib.hid (by rw [hLz]; kernel_rfl)
  have HAL32 := Lib.hid hLA
  have HSZ32 : Hid ((u8s (List.replicate 32 0)).toArray.size = L.toArray.size) := Lib.hid (by rw [hLz]; rfl)
  have HSUM : Hid (∀ W P, St W P [] → Tabs W → Calls Tryd.prog 23 #[.pointer (some ⟨P, 0, none⟩)] W fun e w' => e = .returned (.agg L.toArray) ∧ Below W.heap.size W w') := Lib.hid fun W P h1 h2 => by rw [hL]; exact sum_any h1 (by simp) h2
  have HT := Lib.hid htab
  clear hL hLz hLA htab
  go_enter Tryd.func23, Tryd.ntmps23
  repeat (first | (go_at_call 21; refine calls_name ?_; intro W1 hW1; have HR1 := Lib.hid (show Arr W1 w.heap.size 25 (u8s (List.replicate 32 0)) by rw [hW1.out]; exact arr_new w _ (u8s (List.replicate 32 0))); have HB1 := Lib.hid (show Below w.heap.size w W1 by rw [hW1.out]; exact (Below.refl _ _).alloc (Nat.le_refl _) _); clear hW1; refine (new_any W1 (HT.out.keep HB1.out)).mono ?_; rintro e W2 ⟨rfl, hst2, hb2⟩; have HS2 := Lib.hid hst2; have HBW2 : Hid (Below w.heap.size w W2) := Lib.hid (HB1.out.trans (hb2.mono HB1.out.size)); have HR2 := Lib.hid (HR1.out.only (only_beyond (S := fun _ => False) hb2) (fun h => h)); clear hst2 hb2; dsimp only) | (go_at_call 23; refine (HSUM.out _ _ HS2.out (HT.out.keep HBW2.out)).mono ?_; rintro e W4 ⟨rfl, hb4⟩; have HR4 := Lib.hid (HR2.out.only (only_beyond (S := fun _ => False) hb4) (fun h => h)); have HBW4 : Hid (Below w.heap.size w W4) := Lib.hid (HBW2.out.trans (hb4.mono HBW2.out.size)); clear hb4; dsimp only) | (refine wpList_store_row rfl 25 (.tmp 2) (.tmp 11) rfl w.heap.size L.toArray rfl rfl 25 (u8s (List.replicate 32 0)).toArray HR4.out HI32.out HSZ32.out HAL32.out ?_) | go_values | go_skip | go_guarded | go_step | go_upon)
  (try simp only [Exit.inBlock, Exit.then])
  refine bodyPost_ret (results_cell_row rfl _ _ w.heap.size 25 L.toArray (0, 0) _ rfl (setRow_heap W4 w.heap.size _ L.toArray _ _ HR4.out) Tryd.underlying25 rfl HI32.out) rfl ?_
  exact ⟨rfl, below_setRow HBW4.out (by omega) _⟩
end Go.Proofs.YtfbnnhailnbmiaaDoor
