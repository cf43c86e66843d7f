/- Package name: the key of a full name. -/
import Derived.Test.YtnaepipdlcineaaNmRight
import Derived.Test.YtnaepipdlcineaaNmCut
import Derived.Test.YtnaepipdlcineaaStrC
import Derived.Laws.ResultCell
namespace Go.Proofs.Ytnaepipdlcineaa
open Go.RowKit

/-- what Parse tells of a text -/
def ParsedN (s t r : ByteArray) (ok : Bool) : Prop := (ok = true ∧ ordsOf s = ordsOf t ++ 47 :: ordsOf r ∧ rightN (ordsOf t) = true ∧ rightN (ordsOf r) = true) ∨
  (ok = false ∧ t = ⟨#[]⟩ ∧ r = ⟨#[]⟩ ∧ ∀ a b, ordsOf s = a ++ 47 :: b → rightN a = true → rightN b = true → False)
theorem ret_key {fn : Func} {p u : Tmp} (h : fn.results = #[.cell p 25, .tmp u]) {tmps : Array Value} {w : World} {Q : Nat} {x y : Value} (hp : tmps.getD p undef = .pointer (some ⟨Q, 0, none⟩)) (hq : w.heap[Q]? = some (.cells #[x, y] 25 (0, 0))) :
    (results fn tmps).run Try.prog w = .ok (.tuple #[.agg #[x, y], tmps.getD u undef]) w := by
  have c0 : w.cell? ⟨Q, 0, none⟩ = some x := by rw [cell_of_row w Q 0 _ _ _ hq]; rfl
  have c1 : w.cell? ⟨Q, 1, none⟩ = some y := by rw [cell_of_row w Q 1 _ _ _ hq]; rfl
  rw [results_cell_tmp h, hp]
  go_simp
/-- a key stored -/
def setKey (w : World) (P : Nat) (x y : Value) : World := (w.setCell ⟨P, 0, none⟩ x).setCell ⟨P, 1, none⟩ y
theorem setKey_only (w : World) (P : Nat) (x y : Value) : Only (fun k => k = P) w (setKey w P x y) :=
  (Only.setCell (S := fun k => k = P) _ rfl _).trans (Only.setCell (S := fun k => k = P) _ rfl _) (fun _ _ h => h)
theorem setKey_at {w : World} {P : Nat} {a b : Value} {t : TypeId} (h : w.heap[P]? = some (.cells #[a, b] t (0, 0))) (x y : Value) : (setKey w P x y).heap[P]? = some (.cells #[x, y] t (0, 0)) := by
  have h1 := heap_setCell_same w P 0 _ _ x h
  have h2 := heap_setCell_same _ P 1 _ _ y h1
  unfold setKey
  rw [h2]; simp
set_option maxHeartbeats 8000000 in
set_option maxRecDepth 100000 in
theorem nmparse_any (w : World) (s : ByteArray) (hs : s.size ≤ 100000000000) :
    Calls Try.prog 11 #[.string s] w fun e w' => (∃ t r ok, e = .returned (.tuple #[.agg #[.string t, .string r], .bool ok]) ∧ ParsedN s t r ok) ∧ Below w.heap.size w w' := by
  have HCU : Hid (∀ W, Calls Try.prog 16 #[.string s, .string ⟨#[47]⟩] W fun e w' => (∃ a b ok, e = .returned (.tuple #[.string a, .string b, .bool ok]) ∧ CutIs s a b ok) ∧ ∃ n, w' = W.drewN n) := Lib.hid fun W => nmcut_any W s (by omega)
  go_enter Try.func11, Try.ntmps11
  repeat (first | go_values | go_skip | go_guarded | go_step)
  refine calls_name ?_
  intro W1 hW1
  have HP1 : Hid (W1.heap[w.heap.size]? = some (.cells #[.string ⟨#[]⟩, .string ⟨#[]⟩] 25 (0, 0))) := Lib.hid (by rw [hW1.out]; exact heap_alloc_new w _)
  have HB1 : Hid (Below w.heap.size w W1) := Lib.hid (by rw [hW1.out]; exact (Below.refl _ _).alloc (Nat.le_refl _) _)
  clear hW1
  refine (HCU.out W1).mono ?_
  rintro e W2 ⟨⟨a, b, ok, rfl, hc⟩, n, hw⟩
  have HP : Hid (W2.heap[w.heap.size]? = some (.cells #[.string ⟨#[]⟩, .string ⟨#[]⟩] 25 (0, 0))) := Lib.hid (by rw [hw]; exact HP1.out)
  have HB : Hid (Below w.heap.size w W2) := Lib.hid (by rw [hw]; exact ⟨HB1.out.os, HB1.out.tape, HB1.out.output, HB1.out.size, HB1.out.block⟩)
  clear hw HP1 HB1 HCU
  obtain ⟨Q, hQ⟩ : ∃ Q, Q = w.heap.size := ⟨_, rfl⟩
  have HQ := Lib.hid hQ
  rw [← hQ] at HP ⊢
  clear hQ
  dsimp only
  rcases hc with ⟨h1, rfl, rfl, rfl⟩ | ⟨h1, h2, rfl⟩
  · have HC : Hid (ParsedN a ⟨#[]⟩ ⟨#[]⟩ false) := Lib.hid (.inr ⟨rfl, rfl, rfl, fun x y e => absurd (by rw [e]; simp) h1⟩)
    obtain ⟨c0, c1, f0, f1⟩ := cells2 HP.out
    repeat (first | go_values | go_skip | go_guarded | go_step | go_upon)
    refine bodyPost_ret (ret_key (Q := Q) rfl rfl (setKey_at HP.out (.string ⟨#[]⟩) (.string ⟨#[]⟩))) rfl ?_
    exact ⟨⟨_, _, _, rfl, HC.out⟩, HB.out.trans ((setKey_only _ _ _ _).below HB.out.size (fun k hk => by rw [hk, HQ.out]; exact Nat.le_refl _))⟩
  · have HSZ : Hid (s.size = a.size + 1 + b.size) := Lib.hid (by have := congrArg List.length h1; rw [List.length_append, List.length_cons, ordsOf_length, ordsOf_length, ordsOf_length] at this; omega)
    have HRA := Lib.hid (nmright_any W2 a (by have := HSZ.out; unfold maxLen; omega))
    have HRB := Lib.hid (nmright_any W2 b (by have := HSZ.out; unfold maxLen; omega))
    have HNO : Hid ((rightN (ordsOf a) = true → rightN (ordsOf b) = true → False) → ∀ x y, ordsOf s = x ++ 47 :: y → rightN x = true → rightN y = true → False) := Lib.hid fun hn x y e hx hy => by
      rw [h1] at e
      obtain ⟨e1, e2⟩ := cut_once e h2 (right_slash hx)
      rw [← e1] at hx; rw [← e2] at hy
      exact hn hx hy
    have HS := Lib.hid h1
    clear h1 h2
    cases hA : rightN (ordsOf a) with
    | false =>
      rw [hA] at HRA HNO
      repeat (first | go_values | go_skip | go_guarded | go_step)
      refine HRA.out.mono ?_
      rintro e w1 ⟨rfl, hw⟩; replace hw := hw.symm; subst hw
      dsimp only
      have HC : Hid (ParsedN s ⟨#[]⟩ ⟨#[]⟩ false) := Lib.hid (.inr ⟨rfl, rfl, rfl, HNO.out (fun h => by cases h)⟩)
      obtain ⟨c0, c1, f0, f1⟩ := cells2 HP.out
      repeat (first | go_values | go_skip | go_guarded | go_step | go_upon)
      refine bodyPost_ret (ret_key (Q := Q) rfl rfl (setKey_at HP.out (.string ⟨#[]⟩) (.string ⟨#[]⟩))) rfl ?_
      exact ⟨⟨_, _, _, rfl, HC.out⟩, HB.out.trans ((setKey_only _ _ _ _).below HB.out.size (fun k hk => by rw [hk, HQ.out]; exact Nat.le_refl _))⟩
    | true =>
      rw [hA] at HRA HNO
      cases hB : rightN (ordsOf b) with
      | false =>
        rw [hB] at HRB HNO
        repeat (first | go_values | go_skip | go_guarded | go_step)
        refine HRA.out.mono ?_
        rintro e w1 ⟨rfl, hw⟩; replace hw := hw.symm; subst hw
        dsimp only
        repeat (first | go_values | go_skip | go_guarded | go_step)
        refine HRB.out.mono ?_
        rintro e w1 ⟨rfl, hw⟩; replace hw := hw.symm; subst hw
        dsimp only
        have HC : Hid (ParsedN s ⟨#[]⟩ ⟨#[]⟩ false) := Lib.hid (.inr ⟨rfl, rfl, rfl, HNO.out (fun _ h => by cases h)⟩)
        obtain ⟨c0, c1, f0, f1⟩ := cells2 HP.out
        repeat (first | go_values | go_skip | go_guarded | go_step | go_upon)
        refine bodyPost_ret (ret_key (Q := Q) rfl rfl (setKey_at HP.out (.string ⟨#[]⟩) (.string ⟨#[]⟩))) rfl ?_
        exact ⟨⟨_, _, _, rfl, HC.out⟩, HB.out.trans ((setKey_only _ _ _ _).below HB.out.size (fun k hk => by rw [hk, HQ.out]; exact Nat.le_refl _))⟩
      | true =>
        rw [hB] at HRB
        have HC : Hid (ParsedN s a b true) := Lib.hid (.inl ⟨rfl, HS.out, hA, hB⟩)
        clear hA hB HNO HS
        repeat (first | go_values | go_skip | go_guarded | go_step)
        refine HRA.out.mono ?_
        rintro e w1 ⟨rfl, hw⟩; replace hw := hw.symm; subst hw
        dsimp only
        repeat (first | go_values | go_skip | go_guarded | go_step)
        refine HRB.out.mono ?_
        rintro e w1 ⟨rfl, hw⟩; replace hw := hw.symm; subst hw
        dsimp only
        repeat (first | go_values | go_skip | go_guarded | go_step)
        refine (clone_text W2 a (by have := HSZ.out; omega)).mono ?_
        rintro e W3 ⟨rfl, hb3⟩
        have HB3 := Lib.hid hb3
        clear hb3
        dsimp only
        repeat (first | go_values | go_skip | go_guarded | go_step)
        refine (clone_text W3 b (by have := HSZ.out; omega)).mono ?_
        rintro e W4 ⟨rfl, hb4⟩
        have HB4 : Hid (Below W2.heap.size W2 W4) := Lib.hid (HB3.out.trans (hb4.mono HB3.out.size))
        have HP4 : Hid (W4.heap[Q]? = some (.cells #[.string ⟨#[]⟩, .string ⟨#[]⟩] 25 (0, 0))) := Lib.hid ((HB4.out.block Q (lt_of_block HP.out)).trans HP.out)
        have HB5 : Hid (Below w.heap.size w W4) := Lib.hid (HB.out.trans (HB4.out.mono HB.out.size))
        clear hb4 HB3
        dsimp only
        obtain ⟨c0, c1, f0, f1⟩ := cells2 HP4.out
        repeat (first | go_values | go_skip | go_guarded | go_step | go_upon)
        refine bodyPost_ret (ret_key (Q := Q) rfl rfl (setKey_at HP4.out (.string a) (.string b))) rfl ?_
        exact ⟨⟨_, _, _, rfl, HC.out⟩, HB5.out.trans ((setKey_only _ _ _ _).below HB5.out.size (fun k hk => by rw [hk, HQ.out]; exact Nat.le_refl _))⟩
end Go.Proofs.Ytnaepipdlcineaa
