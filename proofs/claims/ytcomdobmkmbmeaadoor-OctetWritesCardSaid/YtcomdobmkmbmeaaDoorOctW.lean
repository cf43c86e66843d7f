/- A writer of bytes as it lies in memory: Num, Int, Text, Raw, Bytes, walked. -/
import Derived.Test.YtcomdobmkmbmeaaDoorClone
import Derived.Test.YtcomdobmkmbmeaaDoorNumWid
import Derived.Lib.AppendStr
import Derived.Lib.ConvBytes
import Derived.Laws.AppendOwnNone
namespace Go.Proofs.YtcomdobmkmbmeaaDoor
open Go.RowKit

/-! ### Where an append lies -/
theorem append_str_where {P : Program} {w w' : World} (base : Nat) (t u ty e : TypeId) (i : TypeInfo) (ht : P.underlying t = some (.slice e)) (hu : P.underlying u = some .string) (hi : P.info? e = some i) (hz : i.zero = some (.int .u8 0))
    (hsize : i.size = 1) (hby : i.bytes = 1) {v v' : Value} {n : Nat} {xs : List Value} (hown : w.ownsRow base e 1 v n xs) (s : ByteArray) (hb : n + s.size ≤ 1000000000000)
    (hr : (Builtin.append_ #[t, u] ty #[v, .string s]).run P w = .ok v' w') (hn : v' = .slice none 0 0 ↔ v = .slice none 0 0 ∧ s.size = 0) : v'.ownBlock = v.ownBlock ∨ v'.ownBlock = some w.heap.size := by
  rcases hown.2 with ⟨rfl, rfl⟩ | ⟨g, cap, cur, rfl, hbg, hg, hnc, hcm, hcs, htake⟩
  · by_cases hm : s.size = 0
    · rw [hn.2 ⟨rfl, hm⟩]; exact .inl rfl
    · have h2 := run_append_nil_string (P := P) w t u ty e i (.int .u8 0) ht hu hi hz s (by omega) (by omega) (by rw [hby]; omega)
      rw [h2] at hr
      obtain ⟨rfl, _⟩ := Result.ok.inj hr
      exact .inr rfl
  · have hxl : xs.length = n := by simpa using hown.1
    by_cases hroom : n + s.size ≤ cap
    · have h2 := Lib.run_append_room_string (P := P) w t u ty e i ht hu hi hsize g n cap cur hg s hroom (by omega)
      rw [h2] at hr
      obtain ⟨rfl, _⟩ := Result.ok.inj hr
      exact .inl rfl
    · have holds : ∀ j u, xs[j]? = some u → w.cell? ((⟨g, 0, none⟩ : Addr).add j) = some u := hown.cells (g := g) rfl
      have h2 := Lib.run_append_grow_string (P := P) w t u ty e i (.int .u8 0) ht hu hi hz ⟨g, 0, none⟩ n cap xs (by rw [hsize]; simpa using hxl) holds s (by omega) (by omega) (by rw [hby]; exact growslice_fits (by omega) (by omega))
      rw [h2] at hr
      obtain ⟨rfl, _⟩ := Result.ok.inj hr
      exact .inr rfl

theorem append_row_where {P : Program} {w w' : World} (base : Nat) (t ty e : TypeId) (i : TypeInfo) (z : Value) (ht : P.underlying t = some (.slice e)) (hi : P.info? e = some i) (hz : i.zero = some z)
    (hby : i.bytes = 1) (hsize : i.size = 1) {v v' : Value} {n m c : Nat} {xs news : List Value} {ad : Addr} (hown : w.ownsRow base e 1 v n xs) (hl : news.length = m * i.size) (hnews : ∀ j u, news[j]? = some u → w.cell? (ad.add j) = some u) (h1 : ∀ u ∈ news, u.oneCell' = true) (hb : n + m ≤ 1000000000000)
    (hr : (Builtin.append_ #[t, t] ty #[v, .slice (some ad) m c]).run P w = .ok v' w') (hn : v' = .slice none 0 0 ↔ v = .slice none 0 0 ∧ m = 0) : v'.ownBlock = v.ownBlock ∨ v'.ownBlock = some w.heap.size := by
  rcases hown.2 with ⟨rfl, rfl⟩ | ⟨g, cap, cur, rfl, hbg, hg, hnc, hcm, hcs, htake⟩
  · by_cases hm : m = 0
    · rw [hn.2 ⟨rfl, hm⟩]; exact .inl rfl
    · have h2 := run_append_nil (P := P) w t ty e i z ht hi hz ad m c news hl hnews (by omega) (by omega) (by rw [hby]; omega)
      rw [h2] at hr
      obtain ⟨rfl, _⟩ := Result.ok.inj hr
      exact .inr rfl
  · have hxl : xs.length = n := by simpa using hown.1
    by_cases hroom : n + m ≤ cap
    · have h2 := run_append_room (P := P) w t ty e i ht hi g n cap cur hg ad m c news hl hnews h1 hroom (by rw [hl, hsize]; omega)
      rw [h2] at hr
      obtain ⟨rfl, _⟩ := Result.ok.inj hr
      exact .inl rfl
    · have holds : ∀ j u, xs[j]? = some u → w.cell? ((⟨g, 0, none⟩ : Addr).add j) = some u := hown.cells (g := g) rfl
      have h2 := run_append_grow (P := P) w t ty e i z ht hi hz ⟨g, 0, none⟩ n cap xs (by rw [hsize]; simpa using hxl) holds ad m c news hl hnews (by omega) (by omega) (growslice_fits (by omega) (by rw [hby]; omega))
      rw [h2] at hr
      obtain ⟨rfl, _⟩ := Result.ok.inj hr
      exact .inr rfl
/-- append(b, c...) of bytes that lie somewhere: where the row lies, too -/
theorem wpList_append_bytes {P : Program} (w : World) {ops : Array Oper} {rest : List Oper} {o : Oper} {a : Act} {Q : Exit → Act → World → Prop} (hgd : o.guard = none) (sl x : Operand) (t : TypeId)
    (ho : o.op = .call { callee := .builtin .append, args := #[sl, x], argTypes := #[t, t] })
    (base : Nat) (e : TypeId) (i : TypeInfo) (ht : P.underlying t = some (.slice e)) (hi : P.info? e = some i) (hz : i.zero = some (.int .u8 0)) (hsize : i.size = 1) (hby : i.bytes = 1)
    (v : Value) (n : Nat) (xs : List Value) (hs : a.eval sl = v) (hown : w.ownsRow base e 1 v n xs) (y : Value) (bs : List Nat) (hx : a.eval x = y) (hlies : Lies w y bs) (hb : n + bs.length ≤ 1000000000000) (hbase : base ≤ w.heap.size)
    (h : ∀ v' w', w'.ownsRow base e 1 v' (n + bs.length) (xs ++ u8s bs) → w.grownBy w' v.ownBlock → (v'.ownBlock = v.ownBlock ∨ v'.ownBlock = some w.heap.size) → wpList P ops Q rest (a.put o.dst v') w') : wpList P ops Q (o :: rest) a w := by
  have main : ∀ ad m c, y = .slice (some ad) m c → m = bs.length → (∀ j u, (u8s bs)[j]? = some u → w.cell? (ad.add j) = some u) → wpList P ops Q (o :: rest) a w := by
    rintro ad m c rfl rfl hnews
    refine wpList_plain hgd fun K hK => ?_
    have hl : (u8s bs).length = bs.length * 1 := by simp [u8s]
    obtain ⟨v', w', hr, h2, h3, h4⟩ := run_append_own (P := P) w base t o.type e i (.int .u8 0) 1 1 ht hi hz hsize hby rfl (by decide) v n xs hown ad bs.length c (u8s bs) hl hnews (u8s_one bs) (by unfold maxLen; omega) (by omega) hbase
    have h5 := append_row_where base t o.type e i _ ht hi hz hby hsize hown (by rw [hsize]; exact hl) hnews (u8s_one bs) hb hr h4
    unfold Oper.wp execOp
    simp only [ho, resolve, invoke, builtin, Sem.run_bind, Sem.run_pure, Result.andThen_ok, List.map_toArray, List.map_cons, List.map_nil, hs, hx, hr]
    exact hK _ _ (h v' w' h2 h3 h5)
  rcases hlies with ⟨rfl, rfl⟩ | ⟨ad, c, rfl, rfl⟩ | ⟨b, off, c, rfl, hc⟩
  · refine wpList_append_own_none (P := P) hgd sl x t ho base e i 1 ht hi v n xs hs hown hx ?_
    exact h v w (by simpa [u8s] using hown) ⟨rfl, rfl, rfl, Nat.le_refl _, fun _ _ _ => rfl⟩ (.inl rfl)
  · exact main ad 0 c rfl rfl (fun j u hj => by simp [u8s] at hj)
  · refine main _ _ c rfl rfl (fun j u hj => ?_)
    have hjl : j < bs.length := by have := (List.getElem?_eq_some_iff.1 hj).1; simpa [u8s] using this
    have e : ((⟨b, off, none⟩ : Addr).add j) = ⟨b, off + j, none⟩ := by unfold Addr.add; split <;> simp_all
    rw [e, hc j hjl, ← hj, u8s_getD bs j hjl]

/-- append(b, s...), s a text: where the row lies, too -/
theorem wpList_append_str {P : Program} (w : World) {ops : Array Oper} {rest : List Oper} {o : Oper} {a : Act} {Q : Exit → Act → World → Prop} (hgd : o.guard = none) (sl x : Operand) (t u : TypeId)
    (ho : o.op = .call { callee := .builtin .append, args := #[sl, x], argTypes := #[t, u] })
    (base : Nat) (e : TypeId) (i : TypeInfo) (ht : P.underlying t = some (.slice e)) (hu : P.underlying u = some .string) (hi : P.info? e = some i) (hz : i.zero = some (.int .u8 0)) (hsize : i.size = 1) (hby : i.bytes = 1)
    (v : Value) (n : Nat) (xs : List Value) (hs : a.eval sl = v) (hown : w.ownsRow base e 1 v n xs) (s : ByteArray) (hx : a.eval x = .string s) (hb : n + s.size ≤ 1000000000000) (hbase : base ≤ w.heap.size)
    (h : ∀ v' w', w'.ownsRow base e 1 v' (n + s.size) (xs ++ Lib.strCells s) → w.grownBy w' v.ownBlock → (v'.ownBlock = v.ownBlock ∨ v'.ownBlock = some w.heap.size) → wpList P ops Q rest (a.put o.dst v') w') : wpList P ops Q (o :: rest) a w := by
  refine wpList_plain hgd fun K hK => ?_
  obtain ⟨v', w', hr, h2, h3, h4⟩ := Lib.run_append_own_string (P := P) w base t u o.type e i ht hu hi hz hsize hby v n xs hown s (by unfold maxLen; omega) (by omega) hbase
  have h5 := append_str_where base t u o.type e i ht hu hi hz hsize hby hown s hb hr h4
  unfold Oper.wp execOp
  simp only [ho, resolve, invoke, builtin, Sem.run_bind, Sem.run_pure, Result.andThen_ok, List.map_toArray, List.map_cons, List.map_nil, hs, hx, hr]
  exact hK _ _ (h v' w' h2 h3 h5)
theorem strCells_ords (s : ByteArray) : Lib.strCells s = u8s (ordsOf s) := by
  unfold Lib.strCells u8s ordsOf
  simp

/-! ### The writer -/
theorem cells1 {w : World} {P : Nat} {v : Value} {t : TypeId} (h : w.heap[P]? = some (.cells #[v] t (0, 0))) : w.cell? ⟨P, 0, none⟩ = some v ∧ w.frozen? ⟨P, 0, none⟩ = false :=
  ⟨by simp [World.cell?, h], by simp [World.frozen?, h]⟩
/-- A writer at block P; its bytes lie in block g; these are written. -/
def OWriterAt (B : Nat) (w : World) (P : Nat) (g : Option Nat) (l : List Nat) : Prop :=
  B ≤ P ∧ ∃ v, v.ownBlock = g ∧ w.heap[P]? = some (.cells #[v] 27 (0, 0)) ∧ w.ownsRow B 5 1 v l.length (u8s l)
/-- From w0 on a writer at P, whose bytes lay in g, has been written to; it has the bytes l now. -/
def OWrote (B : Nat) (w0 : World) (P : Nat) (g : Option Nat) (l : List Nat) (w : World) : Prop :=
  (B ≤ P ∧ P < w0.heap.size) ∧ (∀ k, g = some k → B ≤ k ∧ k < w0.heap.size) ∧ Only (fun k => k = P ∨ g = some k) w0 w ∧ ∃ g', OWriterAt B w P g' l ∧ (g' = g ∨ ∃ k, g' = some k ∧ w0.heap.size ≤ k)

theorem OWrote.below {B : Nat} {w0 w : World} {P : Nat} {g : Option Nat} {l : List Nat} (h : OWrote B w0 P g l w) (hB : B ≤ w0.heap.size) : Below B w0 w :=
  h.2.2.1.below hB (fun k hk => by
    rcases hk with rfl | hk
    · exact h.1.1
    · exact (h.2.1 k hk).1)
theorem OWrote.start {B : Nat} {w : World} {P : Nat} {g : Option Nat} {l : List Nat} (h : OWriterAt B w P g l) : OWrote B w P g l w := by
  obtain ⟨hBP, v, hv, hP, hown⟩ := h
  exact ⟨⟨hBP, lt_of_block hP⟩, fun k hk => hown.lt k (hv.trans hk), Only.refl _ _, g, ⟨hBP, v, hv, hP, hown⟩, .inl rfl⟩
theorem OWrote.beyond {B : Nat} {w0 w w' : World} {P : Nat} {g : Option Nat} {l : List Nat} (h : OWrote B w0 P g l w) (hb : Below w.heap.size w w') : OWrote B w0 P g l w' := by
  obtain ⟨hP, hg, ho, g', ⟨hBP, v, hv, hh, hown⟩, hg'⟩ := h
  exact ⟨hP, hg, ho.trans (only_beyond (S := fun _ => False) hb) (fun _ _ h => h.elim), g', ⟨hBP, v, hv, (hb.block P (lt_of_block hh)).trans hh, ownsRow_beyond hown hb⟩, hg'⟩
theorem OWriterAt.only {B : Nat} {w w' : World} {P : Nat} {g : Option Nat} {l : List Nat} {S : Nat → Prop} (h : OWriterAt B w P g l) (ho : Only S w w') (hP : ¬ S P) (hg : ∀ k, g = some k → ¬ S k) : OWriterAt B w' P g l := by
  obtain ⟨hBP, v, hv, hh, hown⟩ := h
  refine ⟨hBP, v, hv, (ho.block P (lt_of_block hh) hP).trans hh, hown.1, ?_⟩
  rcases hown.2 with h2 | ⟨b, cap, cur, hv2, hg2, hgg, rest⟩
  · exact .inl h2
  · refine .inr ⟨b, cap, cur, hv2, hg2, (ho.block b (lt_of_block hgg) (hg b ?_)).trans hgg, rest⟩
    rw [← hv, hv2]; rfl
theorem OWriterAt.of {B : Nat} {w0 w : World} {P : Nat} {g : Option Nat} {l : List Nat} (h : OWrote B w0 P g l w) : ∃ g', OWriterAt B w P g' l := by
  obtain ⟨_, _, _, g', h, _⟩ := h
  exact ⟨g', h⟩
theorem owriter_new (w : World) : OWriterAt w.heap.size (w.alloc (.cells #[.slice none 0 0] 27)) w.heap.size none [] :=
  ⟨Nat.le_refl _, .slice none 0 0, rfl, heap_alloc_new w _, World.ownsRow_nil _ _ _ _⟩

/-- what a call finds: the row, and the cell -/
theorem OWrote.at {B : Nat} {w0 w : World} {P : Nat} {g : Option Nat} {l : List Nat} (h : OWrote B w0 P g l w) :
    ∃ v, w.heap[P]? = some (.cells #[v] 27 (0, 0)) ∧ w.ownsRow B 5 1 v l.length (u8s l) ∧ v.ownBlock ≠ some P := by
  obtain ⟨_, _, _, g', ⟨_, v, _, hP, hown⟩, _⟩ := h
  exact ⟨v, hP, hown, row_ne hP hown (by decide)⟩

/-- the writer behind an append and its store: from wa on (w, with new blocks) the row of v has grown to v' in w1 -/
theorem OWrote.next {B : Nat} {w0 w wa w1 w' : World} {P : Nat} {g : Option Nat} {l m : List Nat} {v v' : Value} (h : OWrote B w0 P g l w) (hP : w.heap[P]? = some (.cells #[v] 27 (0, 0))) (ha : Below w.heap.size w wa)
    (hown : w1.ownsRow B 5 1 v' (l ++ m).length (u8s (l ++ m))) (hgrow : wa.grownBy w1 v.ownBlock) (hat : v'.ownBlock = v.ownBlock ∨ ∃ k, v'.ownBlock = some k ∧ w.heap.size ≤ k) (hw : ∃ k, w' = (w1.setCell ⟨P, 0, none⟩ v').drewN k) : OWrote B w0 P g (l ++ m) w' := by
  obtain ⟨k, rfl⟩ := hw
  obtain ⟨hPlt, hgl, ho, g', ⟨hBP, v0, hv, hP0, hown0⟩, hg'⟩ := h
  obtain rfl : v0 = v := by rw [hP] at hP0; simpa using hP0.symm
  have hne := row_ne hP hown0 (by decide)
  have hlt := lt_of_block hP
  have hP1 : w1.heap[P]? = some (.cells #[v0] 27 (0, 0)) := by
    rw [hgrow.block P (Nat.lt_of_lt_of_le hlt ha.size) (fun e => hne e.symm), ha.block P hlt]; exact hP
  have hne' : v'.ownBlock ≠ some P := row_ne hP1 hown (by decide)
  have hO : Only (fun k => k = P ∨ v0.ownBlock = some k) w (w1.setCell ⟨P, 0, none⟩ v') :=
    ((only_beyond (S := fun k => k = P ∨ v0.ownBlock = some k) ha).trans (Only.grown hgrow) (fun i _ h => .inr h)).trans (Only.setCell (S := fun k => k = P) _ rfl _) (fun i _ h => .inl h)
  refine ⟨hPlt, hgl, (ho.trans hO (fun i hi hs => ?_)).trans (only_drewN (fun _ => False) _ k) (fun _ _ h => h.elim), v'.ownBlock, ⟨hBP, v', rfl, ?_, ?_⟩, ?_⟩
  · rcases hs with hs | hs
    · exact .inl hs
    · rw [hv] at hs
      rcases hg' with h2 | ⟨k, h2, h3⟩
      · exact .inr (h2 ▸ hs)
      · rw [h2] at hs; have : k = i := Option.some.inj hs; omega
  · show (w1.setCell ⟨P, 0, none⟩ v').heap[P]? = _
    rw [heap_setCell_same w1 P 0 _ _ v' hP1]; simp
  · exact ownsRow_setCell_other hown (a := ⟨P, 0, none⟩) hne' v'
  · rcases hat with h2 | ⟨k, h2, h3⟩
    · rw [h2, hv]; exact hg'
    · exact .inr ⟨k, h2, Nat.le_trans ho.size h3⟩

/-! ### Widths -/
def Wide (n : Int) : Prop := n = 1 ∨ n = 2 ∨ n = 4 ∨ n = 8
theorem owidth_yes {n : Int} (h : Wide n) (w : World) : Calls Tryd.prog 20 #[.int .i64 n] w fun e w' => e = .returned (.bool true) ∧ w = w' := by
  rcases h with rfl | rfl | rfl | rfl
  all_goals
    go_enter Tryd.func20, Tryd.ntmps20
    go_wp2
    go_ret
    exact ⟨rfl, rfl⟩
theorem not_wide {n : Int} (h : ¬ Wide n) : (n == 1) = false ∧ (n == 2) = false ∧ (n == 4) = false ∧ (n == 8) = false := by
  unfold Wide at h
  refine ⟨?_, ?_, ?_, ?_⟩ <;> simp <;> omega
theorem owidth_no {n : Int} (h : ¬ Wide n) (w : World) : Calls Tryd.prog 20 #[.int .i64 n] w fun e w' => e = .returned (.bool false) ∧ w = w' := by
  obtain ⟨h1, h2, h3, h4⟩ := not_wide h
  clear h
  go_enter Tryd.func20, Tryd.ntmps20
  go_wp2
  go_ret
  exact ⟨rfl, rfl⟩

/-! ### A number's bytes -/
/-- the highest first -/
def numB (x : Nat) : Nat → List Nat
  | 0 => []
  | n + 1 => x / 256 ^ n % 256 :: numB x n
theorem numB_length (x n : Nat) : (numB x n).length = n := by
  induction n with
  | zero => rfl
  | succ n ih => simp [numB, ih]
theorem numB_get (x n i : Nat) (h : i < n) : (numB x n)[i]? = some (x / 256 ^ (n - 1 - i) % 256) := by
  induction n generalizing i with
  | zero => omega
  | succ n ih =>
    cases i with
    | zero => simp [numB]
    | succ i => simp only [numB, List.getElem?_cons_succ]; rw [ih i (by omega), show n + 1 - 1 - (i + 1) = n - 1 - i by omega]
theorem numB_take (x n k : Nat) (h : k < n) : (numB x n).take (k + 1) = (numB x n).take k ++ [x / 256 ^ (n - 1 - k) % 256] := by
  rw [List.take_add_one, numB_get x n k h]; rfl
theorem numB_small (x n : Nat) : ∀ b ∈ numB x n, b < 256 := by
  induction n with
  | zero => simp [numB]
  | succ n ih =>
    intro b hb
    rcases List.mem_cons.1 hb with rfl | hb
    · exact Nat.mod_lt _ (by omega)
    · exact ih b hb

theorem num_arg {w : World} {P : Nat} {x n : Int} (h : ¬ Wide n) :
    Calls Tryd.prog 6 #[.pointer (some ⟨P, 0, none⟩), .int .u64 x, .int .i64 n] w fun e w' => e = .returned (.int .i64 1) ∧ w = w' := by
  have H := Lib.hid h
  clear h
  go_enter Tryd.func6, Tryd.ntmps6
  go_wp2_with (go_at_call 20; refine (owidth_no H.out _).mono ?_; rintro e w' ⟨rfl, rfl⟩)
  go_ret
  exact ⟨rfl, rfl⟩

theorem num_range {w : World} {P x n : Nat} (hx : x < 18446744073709551616) (hn : Wide n) (h : 8 * n < wid x) (hl : StepsLaid w) :
    Calls Tryd.prog 6 #[.pointer (some ⟨P, 0, none⟩), .int .u64 (x : Int), .int .i64 (n : Int)] w fun e w' => e = .returned (.int .i64 3) ∧ w = w' := by
  have HL := Lib.hid hl
  have H := Lib.hid hn
  have hn8 : n ≤ 8 := by unfold Wide at hn; omega
  have hd : decide ((8 : Int) * n < wid x) = true := by simp; omega
  clear hl hn h
  go_enter Tryd.func6, Tryd.ntmps6
  go_wp2_with (first | (go_at_call 20; refine (owidth_yes H.out _).mono ?_; rintro e w' ⟨rfl, rfl⟩) | (go_at_call 21; refine (width_any hx _ HL.out).mono ?_; rintro e w' ⟨rfl, rfl⟩))
  go_ret
  exact ⟨rfl, rfl⟩
end Go.Proofs.YtcomdobmkmbmeaaDoor
