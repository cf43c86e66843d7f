/- A writer of bits as it lies in memory, and what one bit more does to it. -/
import Derived.Test.YtdfefhoihpbldaaDoorBase
import Derived.Test.YtdfefhoihpbldaaDoorBitMath
import Derived.RegionTactic
import Derived.ChangeAlike
import Derived.StillTailTactics
import Derived.Laws.BitsAllLaws
import Derived.Lib.Hide
namespace Go.Proofs.YtdfefhoihpbldaaDoor
open Go.RowKit

/-- A writer at block P; its bytes lie in block g; the bits l are written. -/
def WriterAt (B : Nat) (w : World) (P : Nat) (g : Option Nat) (l : List Bool) : Prop :=
  B ≤ P ∧ ∃ v, v.ownBlock = g ∧ w.heap[P]? = some (.cells #[v, .int .i64 (l.length : Int)] 45 (0, 0)) ∧ w.ownsRow B 5 1 v ((l.length + 7) / 8) (u8s (packB l))

/-- From w0 on a writer at P, whose bytes lay in g, has been written to; it has the bits l now. -/
def Wrote (B : Nat) (w0 : World) (P : Nat) (g : Option Nat) (l : List Bool) (w : World) : Prop :=
  (B ≤ P ∧ P < w0.heap.size) ∧ (∀ k, g = some k → B ≤ k ∧ k < w0.heap.size) ∧ Only (fun k => k = P ∨ g = some k) w0 w ∧ ∃ g', WriterAt B w P g' l ∧ (g' = g ∨ ∃ k, g' = some k ∧ w0.heap.size ≤ k)

/-- what the append leaves, for the walk -/
theorem grown_facts {B : Nat} {w w1 : World} {P g cap n len : Nat} {v : Value} {xs : List Value} (o : Obj) (hP : w.heap[P]? = some (.cells #[v, .int .i64 (len : Int)] 45 (0, 0))) (hne : v.ownBlock ≠ some P) (hxs : xs.length = n)
    (hown1 : w1.ownsRow B 5 1 (.slice (some ⟨g, 0, none⟩) (n + 1) cap) (n + 1) (xs ++ [.int .u8 0])) (hgrow : (w.alloc o).grownBy w1 v.ownBlock) :
    w1.heap[P]? = some (.cells #[v, .int .i64 (len : Int)] 45 (0, 0)) ∧ w1.cell? ⟨P, 0, none⟩ = some v ∧ w1.cell? ⟨P, 1, none⟩ = some (.int .i64 (len : Int)) ∧ w1.frozen? ⟨P, 0, none⟩ = false ∧ w1.frozen? ⟨P, 1, none⟩ = false ∧
      g ≠ P ∧ w1.cell? ⟨g, n, none⟩ = some (.int .u8 0) ∧ w1.frozen? ⟨g, n, none⟩ = false := by
  have hlt := lt_of_block hP
  have h1 : w1.heap[P]? = some (.cells #[v, .int .i64 (len : Int)] 45 (0, 0)) := by
    rw [hgrow.block P (by simp; omega) (fun e => hne e.symm)]
    rw [Below.heap_alloc _ _ _ hlt]; exact hP
  obtain ⟨c0, c1, f0, f1⟩ := cells2 h1
  have hg := row_ne h1 hown1 (by decide)
  refine ⟨h1, c0, c1, f0, f1, fun e => hg (by simp [Value.ownBlock, e]), ?_, hown1.frozenAt n⟩
  rw [hown1.cellAt n (by omega)]
  simp [hxs]

/-- the writer's block, and its bytes' block, behind add's stores -/
theorem stored_facts {B : Nat} {w1 : World} {P g cap n k len : Nat} {v u : Value} {xs : List Value} (hP : w1.heap[P]? = some (.cells #[v, .int .i64 (len : Int)] 45 (0, 0))) (hgP : g ≠ P)
    (hown1 : w1.ownsRow B 5 1 (.slice (some ⟨g, 0, none⟩) n cap) n xs) (x : Value) :
    (((w1.setCell ⟨P, 0, none⟩ u).setCell ⟨g, k, none⟩ x).setCell ⟨P, 1, none⟩ (.int .i64 ((len : Int) + 1))).heap[P]? = some (.cells #[u, .int .i64 ((len + 1 : Nat) : Int)] 45 (0, 0)) ∧
    (((w1.setCell ⟨P, 0, none⟩ u).setCell ⟨g, k, none⟩ x).setCell ⟨P, 1, none⟩ (.int .i64 ((len : Int) + 1))).ownsRow B 5 1 (.slice (some ⟨g, 0, none⟩) n cap) n (xs.set k x) := by
  constructor
  · have h1 := heap_setCell_same w1 P 0 _ _ u hP
    have h2 : ((w1.setCell ⟨P, 0, none⟩ u).setCell ⟨g, k, none⟩ x).heap[P]? = _ := (heap_setCell_other _ ⟨g, k, none⟩ P x (by simpa using fun e => hgP e.symm)).trans h1
    have h3 := heap_setCell_same _ P 1 _ _ (.int .i64 ((len : Int) + 1)) h2
    rw [h3]; simp
  · have h1 := ownsRow_setCell_other hown1 (a := ⟨P, 0, none⟩) (by simpa [Value.ownBlock] using hgP) u
    have h2 := (h1.stored k x).1
    exact ownsRow_setCell_other h2 (a := ⟨P, 1, none⟩) (by simpa [Value.ownBlock] using hgP) _

/-- what a bit more leaves -/
def AddPost (B : Nat) (w : World) (P : Nat) (v : Value) (len n : Nat) (xs : List Value) (w' : World) : Prop :=
  ∃ v', w'.heap[P]? = some (.cells #[v', .int .i64 ((len + 1 : Nat) : Int)] 45 (0, 0)) ∧ w'.ownsRow B 5 1 v' n xs ∧ (v'.ownBlock = v.ownBlock ∨ ∃ k, v'.ownBlock = some k ∧ w.heap.size ≤ k) ∧
    Only (fun k => k = P ∨ v.ownBlock = some k) w w'

theorem addPost_new {B : Nat} {w w1 w' : World} {P g cap n len : Nat} {v x : Value} {xs : List Value} (o : Obj) (hP1 : w1.heap[P]? = some (.cells #[v, .int .i64 (len : Int)] 45 (0, 0))) (hgP : g ≠ P) (hxs : xs.length = n)
    (hown1 : w1.ownsRow B 5 1 (.slice (some ⟨g, 0, none⟩) (n + 1) cap) (n + 1) (xs ++ [.int .u8 0])) (hgrow : (w.alloc o).grownBy w1 v.ownBlock) (hat : v.ownBlock = some g ∨ g = w.heap.size + 1)
    (hw : w' = (((w1.setCell ⟨P, 0, none⟩ (.slice (some ⟨g, 0, none⟩) (n + 1) cap)).setCell ⟨g, n, none⟩ x).setCell ⟨P, 1, none⟩ (.int .i64 ((len : Int) + 1))).drew) : AddPost B w P v len (n + 1) (xs ++ [x]) w' := by
  obtain ⟨s1, s2⟩ := stored_facts (k := n) (u := .slice (some ⟨g, 0, none⟩) (n + 1) cap) hP1 hgP hown1 x
  refine ⟨.slice (some ⟨g, 0, none⟩) (n + 1) cap, ?_, ?_, ?_, ?_⟩
  · rw [hw]; exact s1
  · rw [hw]
    have e : (xs ++ [Value.int .u8 0]).set n x = xs ++ [x] := by rw [← hxs]; simp
    rw [e] at s2
    exact s2
  · rcases hat with h | h
    · exact .inl h.symm
    · exact .inr ⟨g, rfl, by omega⟩
  · rw [hw]
    have hS : ∀ i, i < w.heap.size → g = i → i = P ∨ v.ownBlock = some i := fun i hi e => by rcases hat with h | h; exact .inr (e ▸ h); omega
    refine (((((Only.alloc _ w o).trans (Only.grown hgrow) (fun i _ h => .inr h)).trans (Only.setCell (S := fun k => k = P) _ rfl _) (fun i _ h => .inl h)).trans (Only.setCell (S := fun k => g = k) _ rfl _) hS).trans (Only.setCell (S := fun k => k = P) _ rfl _) (fun i _ h => .inl h)).trans (Only.drew (fun _ => False) _) (fun i _ h => h.elim)

set_option maxHeartbeats 1000000 in
theorem add_new {B : Nat} {w : World} {P n len : Nat} {v : Value} {xs : List Value} (b : Bool) (hB : B ≤ w.heap.size) (hbig : len ≤ 1000000000)
    (hP : w.heap[P]? = some (.cells #[v, .int .i64 (len : Int)] 45 (0, 0))) (hown : w.ownsRow B 5 1 v n xs) (hm : len = 8 * n) :
    Calls Tryd.prog 32 #[.pointer (some ⟨P, 0, none⟩), .int .u8 (b.toNat : Int)] w fun e w' => e = .returned (.tuple #[]) ∧ AddPost B w P v len (n + 1) (xs ++ [.int .u8 ((128 * b.toNat : Nat) : Int)]) w' := by
  obtain ⟨i0, hi, hz0, hz1, hz2⟩ := info_parts infoU8
  have hPlt := lt_of_block hP
  have hxs : xs.length = n := by simpa using hown.1
  have HX := Lib.hid hxs
  have hne := row_ne hP hown (by decide)
  obtain ⟨c0, c1, f0, f1⟩ := cells2 hP
  have hm1 : ((len : Int) % 8 == 0) = true := by simp; omega
  have hm2 : (len : Int) % 8 = 0 := by omega
  have hlb : len ≤ 8 * n := by omega
  have hub : 8 * n ≤ len := by omega
  have HP := Lib.hid hP
  clear hP hxs hm
  cases b
  all_goals
    go_enter Tryd.func32, Tryd.ntmps32
    go_wp2_with (at_builtin; refine wpList_append_lies _ rfl _ _ 24 rfl B 5 i0 (.int .u8 0) 1 1 Tryd.underlying24 hi hz0 hz1 hz2 rfl (by decide) v _ _ rfl (hown.alloc _) ⟨w.heap.size, 0, none⟩ 1 1 [.int .u8 0] rfl rfl (World.news_of_block (heap_alloc_new w _)) (by simp [Value.oneCell']) (by decide) (by unfold maxLen; omega) (by omega) (by simp; omega) (w.heap.size + 1) (by simp) ?_; intro g cap w1 hown1 hgrow hat hlt; obtain ⟨hP1, d0, d1, e0, e1, hgP, hel, hfr⟩ := grown_facts _ HP.out hne HX.out hown1 hgrow; have HO := Lib.hid hown1; have HG := Lib.hid hgrow; have HP1 := Lib.hid hP1; clear hown1 hgrow hP1 c0 c1 f0 f1)
    go_region
    go_wp2
    go_end0
    exact ⟨rfl, addPost_new _ HP1.out hgP HX.out HO.out HG.out hat rfl⟩

theorem addPost_same {B : Nat} {w w' : World} {P g cap n k len : Nat} {x : Value} {xs : List Value} (hP : w.heap[P]? = some (.cells #[.slice (some ⟨g, 0, none⟩) n cap, .int .i64 (len : Int)] 45 (0, 0))) (hgP : g ≠ P)
    (hown : w.ownsRow B 5 1 (.slice (some ⟨g, 0, none⟩) n cap) n xs)
    (hw : w' = ((w.setCell ⟨g, k, none⟩ x).setCell ⟨P, 1, none⟩ (.int .i64 ((len : Int) + 1))).drew) : AddPost B w P (.slice (some ⟨g, 0, none⟩) n cap) len n (xs.set k x) w' := by
  refine ⟨.slice (some ⟨g, 0, none⟩) n cap, ?_, ?_, .inl rfl, ?_⟩
  · rw [hw]
    have h2 : (w.setCell ⟨g, k, none⟩ x).heap[P]? = _ := (heap_setCell_other _ ⟨g, k, none⟩ P x (by simpa using fun e => hgP e.symm)).trans hP
    have h3 := heap_setCell_same _ P 1 _ _ (.int .i64 ((len : Int) + 1)) h2
    show ((w.setCell ⟨g, k, none⟩ x).setCell ⟨P, 1, none⟩ (.int .i64 ((len : Int) + 1))).heap[P]? = _
    rw [h3]; simp
  · rw [hw]
    have h2 := (hown.stored k x).1
    exact ownsRow_setCell_other h2 (a := ⟨P, 1, none⟩) (by simpa [Value.ownBlock] using hgP) _
  · rw [hw]
    exact ((Only.setCell (S := fun k => k = P ∨ some g = some k) _ (.inr rfl) _).trans (Only.setCell (S := fun k => k = P) _ rfl _) (fun i _ h => .inl h)).trans (Only.drew (fun _ => False) _) (fun i _ h => h.elim)

set_option maxHeartbeats 1000000 in
theorem add_same {B : Nat} {w : World} {P n len old : Nat} {v : Value} {xs : List Value} (b : Bool) (hbig : len ≤ 1000000000)
    (hP : w.heap[P]? = some (.cells #[v, .int .i64 (len : Int)] 45 (0, 0))) (hown : w.ownsRow B 5 1 v (n + 1) xs) (hn : n = len / 8) (h0 : len % 8 ≠ 0) (hold : xs[n]? = some (.int .u8 (old : Int))) (x : Int) (hx : bits .or .u8 (old : Int) ((b.toNat : Int) * 2 ^ (7 - len % 8) % 256) = x) :
    Calls Tryd.prog 32 #[.pointer (some ⟨P, 0, none⟩), .int .u8 (b.toNat : Int)] w fun e w' => e = .returned (.tuple #[]) ∧ AddPost B w P v len (n + 1) (xs.set n (.int .u8 x)) w' := by
  obtain ⟨g, cap, rfl, hbg, hglt⟩ := hown.form (by omega)
  have hne := row_ne hP hown (by decide)
  have hgP : g ≠ P := fun e => hne (by simp [Value.ownBlock, e])
  obtain ⟨c0, c1, f0, f1⟩ := cells2 hP
  have hel : w.cell? ⟨g, n, none⟩ = some (.int .u8 (old : Int)) := (hown.cellAt n (by omega)).trans hold
  have hfr := hown.frozenAt n
  have hm1 : ((len : Int) % 8 == 0) = false := by simp; omega
  have hnb : n ≤ 1000000000 := by omega
  have hm3 : 0 ≤ (len : Int) % 8 := by omega
  have hm4 : (len : Int) % 8 < 8 := by omega
  have HP := Lib.hid hP
  have HO := Lib.hid hown
  have HV := Lib.hid hx
  clear hP hold hown hn h0 hx
  go_enter Tryd.func32, Tryd.ntmps32
  go_wp2
  go_region
  go_wp2
  go_end0
  rw [HV.out]
  exact ⟨rfl, addPost_same HP.out hgP HO.out rfl⟩

theorem last_bits (l : List Bool) (b : Bool) : bits .or .u8 ((byteAt l (l.length / 8) : Nat) : Int) ((b.toNat : Int) * 2 ^ (7 - l.length % 8) % 256) = ((lastB l b : Nat) : Int) := by
  have h1 : b.toNat * 2 ^ (7 - l.length % 8) < 256 := by
    have h2 : 2 ^ (7 - l.length % 8) ≤ 2 ^ 7 := Nat.pow_le_pow_right (by omega) (by omega)
    cases b <;> simp <;> omega
  have h3 : ((b.toNat : Int) * 2 ^ (7 - l.length % 8) % 256) = ((b.toNat * 2 ^ (7 - l.length % 8) : Nat) : Int) := by
    have h4 : ((b.toNat * 2 ^ (7 - l.length % 8) : Nat) : Int) = (b.toNat : Int) * 2 ^ (7 - l.length % 8) := by simp
    rw [← h4]; omega
  rw [h3, u8_or_nat _ _ (byteAt_lt l _) h1, lastB_or]

/-- A BIT MORE: the writer has one bit more. -/
theorem add_any {B : Nat} {w0 w : World} {P : Nat} {g : Option Nat} {l : List Bool} (b : Bool) (hB : B ≤ w0.heap.size) (hbig : l.length ≤ 1000000000) (h : Wrote B w0 P g l w) :
    Calls Tryd.prog 32 #[.pointer (some ⟨P, 0, none⟩), .int .u8 (b.toNat : Int)] w fun e w' => e = .returned (.tuple #[]) ∧ Wrote B w0 P g (l ++ [b]) w' := by
  obtain ⟨hPlt, hgl, ho, g', ⟨hBP, v, hv, hP, hown⟩, hg'⟩ := h
  have hB1 : B ≤ w.heap.size := Nat.le_trans hB ho.size
  have fin : ∀ w' n xs, n = (l.length + 1 + 7) / 8 → xs = u8s (packB (l ++ [b])) → AddPost B w P v l.length n xs w' → Wrote B w0 P g (l ++ [b]) w' := by
    rintro w' n xs rfl rfl ⟨v', hP', hown', hblk, honly⟩
    refine ⟨hPlt, hgl, ho.trans honly (fun i hi hs => ?_), v'.ownBlock, ⟨hBP, v', rfl, by simpa using hP', by simpa using hown'⟩, ?_⟩
    · rcases hs with hs | hs
      · exact .inl hs
      · rw [hv] at hs
        rcases hg' with h2 | ⟨k, h2, h3⟩
        · exact .inr (h2 ▸ hs)
        · rw [h2] at hs; have : k = i := Option.some.inj hs; omega
    · rcases hblk with h2 | ⟨k, h2, h3⟩
      · rw [h2, hv]; exact hg'
      · exact .inr ⟨k, h2, Nat.le_trans ho.size h3⟩
  by_cases hm : l.length % 8 = 0
  · have e1 : (l.length + 7) / 8 = l.length / 8 := by omega
    rw [e1] at hown
    refine (add_new b hB1 hbig hP hown (by omega)).mono fun e w' ⟨he, hp⟩ => ⟨he, fin w' _ _ (by omega) ?_ hp⟩
    rw [← bytesN_put, ← bytesN_grow l hm]
    have e2 : (u8s (packB l)).length = l.length / 8 := by rw [u8s_length, packB_length, e1]
    have e3 : byteAt l (l.length / 8) = 0 := by
      have h1 := byteAt_low l
      rw [hm] at h1
      have h2 := byteAt_lt l (l.length / 8)
      omega
    rw [← e2, List.set_append_right _ _ (Nat.le_refl _)]
    simp only [Nat.sub_self, List.set_cons_zero, e2, lastB, e3, hm, Nat.zero_add]
    congr 3
    omega
  · have e1 : (l.length + 7) / 8 = l.length / 8 + 1 := by omega
    rw [e1] at hown
    have hold : (u8s (packB l))[l.length / 8]? = some (.int .u8 ((byteAt l (l.length / 8) : Nat) : Int)) := by
      rw [bytesN_same l hm, u8s_get, bytesN_get _ _ _ (by omega)]; rfl
    refine (add_same b hbig hP hown rfl hm hold _ (last_bits l b)).mono fun e w' ⟨he, hp⟩ => ⟨he, fin w' _ _ (by omega) ?_ hp⟩
    rw [bytesN_same l hm, bytesN_put]
end Go.Proofs.YtdfefhoihpbldaaDoor
