/- Core, App, TextC, GenC, GenOpC, RowK: laid into one. -/
import Derived.Test.YthbdchleppbidaaGreatRows
import Derived.WalkKit
import Derived.WalkSpells
import Derived.WalkLawsBesides
import Derived.Lib.Hide
import Derived.Laws.BytesArg
import Derived.Laws.BitsAllLaws
import Derived.Deep.AppendLies
import Derived.Deep.RegionHeld3
import Derived.Deep.QuietTactic
import Derived.BigQuiet
import Derived.IntWalk
import Derived.RegionTactic
import Derived.ChangeAlike
import Derived.OneCell
import Derived.Lib.AppendStr
import Derived.Lib.ConvBytes
import Derived.Laws.AppendOwnNone
import Derived.Deep.RegionLaw
import Derived.Great.BuildSlice
import Derived.OpenShut
import Derived.Deep.Slices
import Derived.StillTailTactics
import Derived.Laws.ResultCell
import Derived.Laws.CopyOwn
import Derived.Lib.SlBytesConst
import Derived.OwnWalk
import Derived.Laws.MakeOwn
import Derived.Great.FillDense
import Derived.Lib.AppendZerosOnto
/- What every stage's texts share: which blocks a call writes; rows of one's own; bytes as texts; a drawn region walked one operation at a time. No function of the program. -/
namespace Go.Proofs.YthbdchleppbidaaGreat
open Go.RowKit

/-! ### Numbers handed back -/
theorem ret_i64 {a b : Int} (h : a = b) : Ending.returned (.int .i64 a) = .returned (.int .i64 b) := by rw [h]
theorem ret_u64 {a b : Int} (h : a = b) : Ending.returned (.int .u64 a) = .returned (.int .u64 b) := by rw [h]
theorem ret_u8 {a b : Int} (h : a = b) : Ending.returned (.int .u8 a) = .returned (.int .u8 b) := by rw [h]
theorem low_bit {x : Int} (hx : 0 ≤ x) (hx' : x ≤ 18446744073709551615) : bits .and .u64 x 1 = x % 2 := by
  rw [u64_and _ _ hx (by omega) (by omega) (by omega), show (1 : Int).toNat = 1 from rfl, nat_mask1]; omega

/-! ### Which old blocks a call writes -/
/-- Of the old blocks at most those in S are written; the streams are as they were. -/
structure Only (S : Nat → Prop) (w w' : World) : Prop where
  os : w'.os = w.os
  tape : w'.tape = w.tape
  output : w'.output = w.output
  size : w.heap.size ≤ w'.heap.size
  block : ∀ k, k < w.heap.size → ¬ S k → w'.heap[k]? = w.heap[k]?
theorem Only.refl (S : Nat → Prop) (w : World) : Only S w w := ⟨rfl, rfl, rfl, Nat.le_refl _, fun _ _ _ => rfl⟩
theorem Only.trans {S T : Nat → Prop} {a b c : World} (h : Only S a b) (k : Only T b c) (hT : ∀ i, i < a.heap.size → T i → S i) : Only S a c :=
  ⟨k.os.trans h.os, k.tape.trans h.tape, k.output.trans h.output, Nat.le_trans h.size k.size, fun i hi hs => (k.block i (Nat.lt_of_lt_of_le hi h.size) (fun ht => hs (hT i hi ht))).trans (h.block i hi hs)⟩
theorem Only.below {S : Nat → Prop} {B : Nat} {w w' : World} (h : Only S w w') (hB : B ≤ w.heap.size) (hS : ∀ k, S k → B ≤ k) : Below B w w' :=
  ⟨h.os, h.tape, h.output, h.size, fun k hk => h.block k (by omega) (fun hs => by have := hS k hs; omega)⟩
theorem Only.alloc (S : Nat → Prop) (w : World) (o : Obj) : Only S w (w.alloc o) := ⟨rfl, rfl, rfl, by simp, fun k hk _ => Below.heap_alloc _ _ _ hk⟩
theorem Only.drew (S : Nat → Prop) (w : World) : Only S w w.drew := ⟨rfl, rfl, rfl, Nat.le_refl _, fun _ _ _ => rfl⟩
theorem Only.setCell {S : Nat → Prop} (w : World) {p : Addr} (hp : S p.block) (u : Value) : Only S w (w.setCell p u) :=
  ⟨rfl, rfl, rfl, by simp [World.setCell], fun k _ hs => Below.heap_setCell _ _ _ _ (fun e => hs (e ▸ hp))⟩
theorem Only.grown {w w' : World} {row : Option Nat} (hg : w.grownBy w' row) : Only (fun k => row = some k) w w' :=
  ⟨hg.os, hg.tape, hg.output, hg.size, fun k hk hs => hg.block k hk (fun e => hs e.symm)⟩
theorem Only.mono {S T : Nat → Prop} {w w' : World} (h : Only S w w') (hST : ∀ k, k < w.heap.size → S k → T k) : Only T w w' :=
  ⟨h.os, h.tape, h.output, h.size, fun k hk hs => h.block k hk (fun h' => hs (hST k hk h'))⟩
theorem only_drewN (S : Nat → Prop) (w : World) (m : Nat) : Only S w (w.drewN m) := by
  obtain ⟨h1, h2, h3, h4⟩ : (w.drewN m).os = w.os ∧ (w.drewN m).tape = w.tape ∧ (w.drewN m).output = w.output ∧ (w.drewN m).heap = w.heap := ⟨rfl, rfl, rfl, rfl⟩
  exact ⟨h1, h2, h3, by rw [h4]; exact Nat.le_refl _, fun _ _ _ => by rw [h4]⟩
theorem only_beyond {S : Nat → Prop} {w w' : World} (hb : Below w.heap.size w w') : Only S w w' := ⟨hb.os, hb.tape, hb.output, hb.size, fun k hk _ => hb.block k hk⟩
theorem cell_lt {w : World} {a : Addr} {v : Value} (h : w.cell? a = some v) : a.block < w.heap.size := by
  rcases Nat.lt_or_ge a.block w.heap.size with h1 | h1
  · exact h1
  · simp [World.cell?, Array.getElem?_eq_none h1] at h

/-! ### Blocks of two and three cells -/
theorem cells2 {w : World} {P : Nat} {v u : Value} {t : TypeId} (h : w.heap[P]? = some (.cells #[v, u] t (0, 0))) :
    w.cell? ⟨P, 0, none⟩ = some v ∧ w.cell? ⟨P, 1, none⟩ = some u ∧ w.frozen? ⟨P, 0, none⟩ = false ∧ w.frozen? ⟨P, 1, none⟩ = false :=
  ⟨by simp [World.cell?, h], by simp [World.cell?, h], by simp [World.frozen?, h], by simp [World.frozen?, h]⟩
theorem cells3 {w : World} {P : Nat} {v u z : Value} {t : TypeId} (h : w.heap[P]? = some (.cells #[v, u, z] t (0, 0))) :
    w.cell? ⟨P, 0, none⟩ = some v ∧ w.cell? ⟨P, 1, none⟩ = some u ∧ w.cell? ⟨P, 2, none⟩ = some z ∧ w.frozen? ⟨P, 0, none⟩ = false ∧ w.frozen? ⟨P, 1, none⟩ = false ∧ w.frozen? ⟨P, 2, none⟩ = false :=
  ⟨by simp [World.cell?, h], by simp [World.cell?, h], by simp [World.cell?, h], by simp [World.frozen?, h], by simp [World.frozen?, h], by simp [World.frozen?, h]⟩

/-! ### Rows of the call's own -/
theorem row_only {B : Nat} {w w' : World} {e : TypeId} {s : Nat} {v : Value} {n : Nat} {xs : List Value} {S : Nat → Prop} (h : w.ownsRow B e s v n xs) (ho : Only S w w') (hS : ∀ k, v.ownBlock = some k → ¬ S k) : w'.ownsRow B e s v n xs := by
  refine ⟨h.1, ?_⟩
  rcases h.2 with h2 | ⟨g, cap, cur, hv, hg, hgg, rest⟩
  · exact .inl h2
  · refine .inr ⟨g, cap, cur, hv, hg, (ho.block g (lt_of_block hgg) (hS g ?_)).trans hgg, rest⟩
    rw [hv]; rfl
theorem ownsRow_beyond {B : Nat} {w w' : World} {e : TypeId} {n : Nat} {v : Value} {xs : List Value} {s : Nat} (h : w.ownsRow B e s v n xs) (hb : Below w.heap.size w w') : w'.ownsRow B e s v n xs :=
  row_only h (only_beyond (S := fun _ => False) hb) (fun _ _ h => h)
theorem rows_apart {B : Nat} {w : World} {e e' : TypeId} {s s' : Nat} {v v' : Value} {n n' : Nat} {xs xs' : List Value} (h : w.ownsRow B e s v n xs) (h' : w.ownsRow B e' s' v' n' xs') (hne : e ≠ e') : ∀ k, v.ownBlock = some k → v'.ownBlock ≠ some k := by
  intro k h1 h2
  rcases h.2 with ⟨rfl, _⟩ | ⟨g, cap, cur, rfl, _, hg, _⟩
  · simp [Value.ownBlock] at h1
  · rcases h'.2 with ⟨rfl, _⟩ | ⟨g', cap', cur', rfl, _, hg', _⟩
    · simp [Value.ownBlock] at h2
    · simp [Value.ownBlock] at h1 h2
      subst h1; subst h2
      rw [hg] at hg'
      simp at hg'
      exact hne hg'.2
theorem row_ne {B : Nat} {w : World} {P : Nat} {v : Value} {n s : Nat} {xs : List Value} {cs : Array Value} {t e : TypeId} {fr : Nat × Nat} (hP : w.heap[P]? = some (.cells cs t fr)) (hown : w.ownsRow B e s v n xs) (hte : t ≠ e) : v.ownBlock ≠ some P := by
  intro h
  rcases hown.2 with ⟨rfl, _⟩ | ⟨g, cap, cur, rfl, _, hg, _⟩
  · simp [Value.ownBlock] at h
  · simp [Value.ownBlock] at h
    subst h
    rw [hP] at hg
    simp at hg
    exact hte hg.2.1
theorem own_slice {B : Nat} {w : World} {e : TypeId} {v : Value} {n : Nat} {xs : List Value} {s : Nat} (h : w.ownsRow B e s v n xs) : ∃ a cap, v = .slice a n cap := by
  rcases h.2 with ⟨rfl, h0⟩ | ⟨g, cap, cur, rfl, _⟩
  · exact ⟨none, 0, by rw [h0]⟩
  · exact ⟨_, _, rfl⟩
/-- a row of base B is one of every smaller base -/
theorem row_base {B B' : Nat} {w : World} {e : TypeId} {s : Nat} {v : Value} {n : Nat} {xs : List Value} (h : w.ownsRow B e s v n xs) (hB : B' ≤ B) : w.ownsRow B' e s v n xs := by
  refine ⟨h.1, ?_⟩
  rcases h.2 with h2 | ⟨g, cap, cur, hv, hg, rest⟩
  · exact .inl h2
  · exact .inr ⟨g, cap, cur, hv, by omega, rest⟩

/-! ### Bytes -/
/-- bytes as cells -/
def u8s (l : List Nat) : List Value := l.map fun (x : Nat) => Value.int .u8 (x : Int)
theorem u8s_length (l : List Nat) : (u8s l).length = l.length := by simp [u8s]
theorem u8s_get (l : List Nat) (i : Nat) : (u8s l)[i]? = (l[i]?).map fun (x : Nat) => Value.int .u8 (x : Int) := by simp [u8s]
theorem u8s_getD (bs : List Nat) (j : Nat) (h : j < bs.length) : (u8s bs)[j]? = some (.int .u8 ((bs.getD j 0 : Nat) : Int)) := by
  rw [u8s_get]; simp [List.getD, List.getElem?_eq_getElem h]
theorem u8s_append (a b : List Nat) : u8s (a ++ b) = u8s a ++ u8s b := by simp [u8s]
theorem u8s_one (l : List Nat) : ∀ u ∈ u8s l, u.oneCell' = true := by intro u hu; obtain ⟨x, _, rfl⟩ := List.mem_map.1 hu; rfl
theorem infoU8 : (Tryz.prog.info? 5).map (fun i => (i.zero, i.size, i.bytes)) = some (some (.int .u8 0), 1, 1) := by kernel_rfl
/-- the bytes, as they lie -/
def BytesAt (w : World) (b off : Nat) (bs : List Nat) : Prop := ∀ j, j < bs.length → w.cell? ⟨b, off + j, none⟩ = some (.int .u8 ((bs.getD j 0 : Nat) : Int))
theorem BytesAt.below {B : Nat} {w w' : World} {b off : Nat} {bs : List Nat} (h : BytesAt w b off bs) (hb : Below B w w') (hB : b < B) : BytesAt w' b off bs := fun j hj => by
  rw [← h j hj]; exact hb.cell (p := ⟨b, _, none⟩) hB
/-- a slice of these bytes: nil; of none; at a place -/
def Lies (w : World) (v : Value) (bs : List Nat) : Prop :=
  (v = .slice none 0 0 ∧ bs = []) ∨ (∃ a cap, v = .slice (some a) 0 cap ∧ bs = []) ∨ ∃ b off cap, v = .slice (some ⟨b, off, none⟩) bs.length cap ∧ BytesAt w b off bs
theorem ownsRow_lies {w : World} {B : Nat} {v : Value} {n : Nat} {bs : List Nat} (h : w.ownsRow B 5 1 v n (u8s bs)) : Lies w v bs := by
  have hl : bs.length = n := by have := h.1; simpa [u8s] using this
  rcases h.2 with ⟨rfl, h0⟩ | ⟨g, cap, cur, rfl, _⟩
  · exact .inl ⟨rfl, List.length_eq_zero_iff.1 (by omega)⟩
  · refine .inr (.inr ⟨g, 0, cap, by rw [hl], fun j hj => ?_⟩)
    rw [Nat.zero_add, h.cellAt j (by omega), u8s_getD bs j hj]
/-- bytes as a text -/
def strOf (bs : List Nat) : ByteArray := ⟨(bs.map UInt8.ofNat).toArray⟩
theorem strOf_size (l : List Nat) : (strOf l).size = l.length := by simp [strOf, ByteArray.size]
theorem strOf_append (a b : List Nat) : strOf (a ++ b) = strOf a ++ strOf b := by apply ByteArray.ext; simp [strOf]
theorem strOf_nil : strOf [] = ⟨#[]⟩ := rfl
theorem strOfNums_nat (bs : List Nat) : strOfNums (bs.map Int.ofNat) = strOf bs := by unfold strOfNums strOf; simp
/-- the bytes of a text -/
def ordsOf (s : ByteArray) : List Nat := s.data.toList.map UInt8.toNat
theorem ordsOf_length (s : ByteArray) : (ordsOf s).length = s.size := by unfold ordsOf; rw [List.length_map, Array.length_toList]; rfl
theorem ordsOf_lt (s : ByteArray) : ∀ x ∈ ordsOf s, x < 256 := by intro x hx; obtain ⟨b, _, rfl⟩ := List.mem_map.1 hx; exact b.toNat_lt
theorem strOf_ords (s : ByteArray) : strOf (ordsOf s) = s := by
  apply ByteArray.ext; apply Array.ext'
  unfold strOf ordsOf
  simp only [List.map_map]
  conv => rhs; rw [← List.map_id s.data.toList]
  apply List.map_congr_left
  intro x _
  simp [Function.comp]
theorem ords_strOf {l : List Nat} (h : ∀ x ∈ l, x < 256) : ordsOf (strOf l) = l := by
  unfold ordsOf strOf
  simp only [List.map_map]
  conv => rhs; rw [← List.map_id l]
  apply List.map_congr_left
  intro x hx
  simp only [Function.comp, id]
  have := h x hx
  rw [UInt8.toNat_ofNat']; omega
/-- the condition on the world may be narrowed on the way -/
theorem anyH_mono {P : Program} {ops : Array Oper} {Q : Exit → Act → World → Prop} {md : Region.Mode} {S S' : World → Prop} (h : ∀ w, S' w → S w) :
    ∀ {fuel : Nat} {listed : Array Bool} {a : Act} {w : World}, wpAnyH P md ops Q S' fuel listed a w → wpAnyH P md ops Q S fuel listed a w
  | 0, _, _, _, H => H
  | _ + 1, _, _, _, H => ⟨H.1, fun i hi => wpOp_mono (fun _ _ h' => ⟨h _ h'.1, anyH_mono h h'.2⟩) (H.2 i hi)⟩
/-- An operation taken first, its slot written out. -/
theorem anyH_take {P : Program} {ops : Array Oper} {Q : Exit → Act → World → Prop} {md : Region.Mode} {S : World → Prop} {i : Nat} {oi : Oper} (d : Option Tmp) {v : Value} {fuel : Nat} {listed : Array Bool} {a : Act} {w : World} (hi : ops[i]? = some oi) (hd : oi.dst = d)
    (hs : Region.noSelect ops = true) (hf : Region.free md ops listed i = true) (hr : (Region.ready md ops listed).contains i = true)
    (hQ : ∀ c a w, Q (.panic c) (a.put d v) w → Q (.panic c) a w) (hw : Region.wanted oi (yielded ops a.tmps) = true) (hS : S w) (hy : ∀ w, S w → (execOp a.eval oi).run P w = .ok (.value v) w)
    (h : wpAnyH P md ops Q S fuel (listed.setIfInBounds i true) (a.put d v) w) : wpAnyH P md ops Q S (fuel + 1) listed a w := by
  subst hd
  exact wpAnyH_take hi hs hf hr hQ (Or.inl ⟨hw, hy⟩) hS h
/-- An operation whose guard says no is passed by. -/
theorem anyH_skip {P : Program} {ops : Array Oper} {Q : Exit → Act → World → Prop} {md : Region.Mode} {S : World → Prop} {i : Nat} {oi : Oper} (d : Option Tmp) {fuel : Nat} {listed : Array Bool} {a : Act} {w : World} (hi : ops[i]? = some oi) (hd : oi.dst = d)
    (hs : Region.noSelect ops = true) (hf : Region.free md ops listed i = true) (hr : (Region.ready md ops listed).contains i = true)
    (hQ : ∀ c a w, Q (.panic c) (a.put d undef) w → Q (.panic c) a w) (hw : Region.wanted oi (yielded ops a.tmps) = false) (hS : S w)
    (h : wpAnyH P md ops Q S fuel (listed.setIfInBounds i true) (a.put d undef) w) : wpAnyH P md ops Q S (fuel + 1) listed a w := by
  subst hd
  exact wpAnyH_take hi hs hf hr hQ (Or.inr ⟨hw, rfl⟩) hS h
theorem drewN_heap (w : World) (n : Nat) : (w.drewN n).heap = w.heap := by
  induction n with
  | zero => rfl
  | succ n ih => exact ih
end Go.Proofs.YthbdchleppbidaaGreat
/- append of bytes, and of a text, to a row of one's own: where it lies, too. -/
namespace Go.Proofs.YthbdchleppbidaaGreat
open Go.RowKit

theorem append_str_where {P : Program} {w w' : World} (base : Nat) (t u ty e : TypeId) (i : TypeInfo) (ht : P.underlying t = some (.slice e)) (hu : P.underlying u = some .string) (hi : P.info? e = some i) (hz : i.zero = some (.int .u8 0))
    (hsize : i.size = 1) (hby : i.bytes = 1) {v v' : Value} {n : Nat} {xs : List Value} (hown : w.ownsRow base e 1 v n xs) (s : ByteArray) (hb : n + s.size ≤ 1000000000000)
    (hr : (Builtin.append_ #[t, u] ty #[v, .string s]).run P w = .ok v' w') (hn : v' = .slice none 0 0 ↔ v = .slice none 0 0 ∧ s.size = 0) : v'.ownBlock = v.ownBlock ∨ v'.ownBlock = some w.heap.size := by
  rcases hown.2 with ⟨rfl, rfl⟩ | ⟨g, cap, cur, rfl, hbg, hg, hnc, hcm, hcs, htake⟩
  · by_cases hm : s.size = 0
    · rw [hn.2 ⟨rfl, hm⟩]; exact .inl rfl
    · have h2 := run_append_nil_string (P := P) w t u ty e i (.int .u8 0) ht hu hi hz s (by omega) (by omega) (by rw [hby]; omega)
      rw [h2] at hr
      obtain ⟨rfl, _⟩ := Result.ok.inj hr
      exact .inr rfl
  · have hxl : xs.length = n := by simpa using hown.1
    by_cases hroom : n + s.size ≤ cap
    · have h2 := Lib.run_append_room_string (P := P) w t u ty e i ht hu hi hsize g n cap cur hg s hroom (by omega)
      rw [h2] at hr
      obtain ⟨rfl, _⟩ := Result.ok.inj hr
      exact .inl rfl
    · have holds : ∀ j u, xs[j]? = some u → w.cell? ((⟨g, 0, none⟩ : Addr).add j) = some u := hown.cells (g := g) rfl
      have h2 := Lib.run_append_grow_string (P := P) w t u ty e i (.int .u8 0) ht hu hi hz ⟨g, 0, none⟩ n cap xs (by rw [hsize]; simpa using hxl) holds s (by omega) (by omega) (by rw [hby]; exact growslice_fits (by omega) (by omega))
      rw [h2] at hr
      obtain ⟨rfl, _⟩ := Result.ok.inj hr
      exact .inr rfl

theorem append_row_where {P : Program} {w w' : World} (base : Nat) (t ty e : TypeId) (i : TypeInfo) (z : Value) (ht : P.underlying t = some (.slice e)) (hi : P.info? e = some i) (hz : i.zero = some z)
    (hby : i.bytes = 1) (hsize : i.size = 1) {v v' : Value} {n m c : Nat} {xs news : List Value} {ad : Addr} (hown : w.ownsRow base e 1 v n xs) (hl : news.length = m * i.size) (hnews : ∀ j u, news[j]? = some u → w.cell? (ad.add j) = some u) (h1 : ∀ u ∈ news, u.oneCell' = true) (hb : n + m ≤ 1000000000000)
    (hr : (Builtin.append_ #[t, t] ty #[v, .slice (some ad) m c]).run P w = .ok v' w') (hn : v' = .slice none 0 0 ↔ v = .slice none 0 0 ∧ m = 0) : v'.ownBlock = v.ownBlock ∨ v'.ownBlock = some w.heap.size := by
  rcases hown.2 with ⟨rfl, rfl⟩ | ⟨g, cap, cur, rfl, hbg, hg, hnc, hcm, hcs, htake⟩
  · by_cases hm : m = 0
    · rw [hn.2 ⟨rfl, hm⟩]; exact .inl rfl
    · have h2 := run_append_nil (P := P) w t ty e i z ht hi hz ad m c news hl hnews (by omega) (by omega) (by rw [hby]; omega)
      rw [h2] at hr
      obtain ⟨rfl, _⟩ := Result.ok.inj hr
      exact .inr rfl
  · have hxl : xs.length = n := by simpa using hown.1
    by_cases hroom : n + m ≤ cap
    · have h2 := run_append_room (P := P) w t ty e i ht hi g n cap cur hg ad m c news hl hnews h1 hroom (by rw [hl, hsize]; omega)
      rw [h2] at hr
      obtain ⟨rfl, _⟩ := Result.ok.inj hr
      exact .inl rfl
    · have holds : ∀ j u, xs[j]? = some u → w.cell? ((⟨g, 0, none⟩ : Addr).add j) = some u := hown.cells (g := g) rfl
      have h2 := run_append_grow (P := P) w t ty e i z ht hi hz ⟨g, 0, none⟩ n cap xs (by rw [hsize]; simpa using hxl) holds ad m c news hl hnews (by omega) (by omega) (growslice_fits (by omega) (by rw [hby]; omega))
      rw [h2] at hr
      obtain ⟨rfl, _⟩ := Result.ok.inj hr
      exact .inr rfl
/-- append(b, c...) of bytes that lie somewhere: where the row lies, too -/
theorem wpList_append_bytes {P : Program} (w : World) {ops : Array Oper} {rest : List Oper} {o : Oper} {a : Act} {Q : Exit → Act → World → Prop} (hgd : o.guard = none) (sl x : Operand) (t : TypeId)
    (ho : o.op = .call { callee := .builtin .append, args := #[sl, x], argTypes := #[t, t] })
    (base : Nat) (e : TypeId) (i : TypeInfo) (ht : P.underlying t = some (.slice e)) (hi : P.info? e = some i) (hz : i.zero = some (.int .u8 0)) (hsize : i.size = 1) (hby : i.bytes = 1)
    (v : Value) (n : Nat) (xs : List Value) (hs : a.eval sl = v) (hown : w.ownsRow base e 1 v n xs) (y : Value) (bs : List Nat) (hx : a.eval x = y) (hlies : Lies w y bs) (hb : n + bs.length ≤ 1000000000000) (hbase : base ≤ w.heap.size)
    (h : ∀ v' w', w'.ownsRow base e 1 v' (n + bs.length) (xs ++ u8s bs) → w.grownBy w' v.ownBlock → (v'.ownBlock = v.ownBlock ∨ v'.ownBlock = some w.heap.size) → wpList P ops Q rest (a.put o.dst v') w') : wpList P ops Q (o :: rest) a w := by
  have main : ∀ ad m c, y = .slice (some ad) m c → m = bs.length → (∀ j u, (u8s bs)[j]? = some u → w.cell? (ad.add j) = some u) → wpList P ops Q (o :: rest) a w := by
    rintro ad m c rfl rfl hnews
    refine wpList_plain hgd fun K hK => ?_
    have hl : (u8s bs).length = bs.length * 1 := by simp [u8s]
    obtain ⟨v', w', hr, h2, h3, h4⟩ := run_append_own (P := P) w base t o.type e i (.int .u8 0) 1 1 ht hi hz hsize hby rfl (by decide) v n xs hown ad bs.length c (u8s bs) hl hnews (u8s_one bs) (by unfold maxLen; omega) (by omega) hbase
    have h5 := append_row_where base t o.type e i _ ht hi hz hby hsize hown (by rw [hsize]; exact hl) hnews (u8s_one bs) hb hr h4
    unfold Oper.wp execOp
    simp only [ho, resolve, invoke, builtin, Sem.run_bind, Sem.run_pure, Result.andThen_ok, List.map_toArray, List.map_cons, List.map_nil, hs, hx, hr]
    exact hK _ _ (h v' w' h2 h3 h5)
  rcases hlies with ⟨rfl, rfl⟩ | ⟨ad, c, rfl, rfl⟩ | ⟨b, off, c, rfl, hc⟩
  · refine wpList_append_own_none (P := P) hgd sl x t ho base e i 1 ht hi v n xs hs hown hx ?_
    exact h v w (by simpa [u8s] using hown) ⟨rfl, rfl, rfl, Nat.le_refl _, fun _ _ _ => rfl⟩ (.inl rfl)
  · exact main ad 0 c rfl rfl (fun j u hj => by simp [u8s] at hj)
  · refine main _ _ c rfl rfl (fun j u hj => ?_)
    have hjl : j < bs.length := by have := (List.getElem?_eq_some_iff.1 hj).1; simpa [u8s] using this
    have e : ((⟨b, off, none⟩ : Addr).add j) = ⟨b, off + j, none⟩ := by unfold Addr.add; split <;> simp_all
    rw [e, hc j hjl, ← hj, u8s_getD bs j hjl]

/-- append(b, s...), s a text: where the row lies, too -/
theorem wpList_append_str {P : Program} (w : World) {ops : Array Oper} {rest : List Oper} {o : Oper} {a : Act} {Q : Exit → Act → World → Prop} (hgd : o.guard = none) (sl x : Operand) (t u : TypeId)
    (ho : o.op = .call { callee := .builtin .append, args := #[sl, x], argTypes := #[t, u] })
    (base : Nat) (e : TypeId) (i : TypeInfo) (ht : P.underlying t = some (.slice e)) (hu : P.underlying u = some .string) (hi : P.info? e = some i) (hz : i.zero = some (.int .u8 0)) (hsize : i.size = 1) (hby : i.bytes = 1)
    (v : Value) (n : Nat) (xs : List Value) (hs : a.eval sl = v) (hown : w.ownsRow base e 1 v n xs) (s : ByteArray) (hx : a.eval x = .string s) (hb : n + s.size ≤ 1000000000000) (hbase : base ≤ w.heap.size)
    (h : ∀ v' w', w'.ownsRow base e 1 v' (n + s.size) (xs ++ Lib.strCells s) → w.grownBy w' v.ownBlock → (v'.ownBlock = v.ownBlock ∨ v'.ownBlock = some w.heap.size) → wpList P ops Q rest (a.put o.dst v') w') : wpList P ops Q (o :: rest) a w := by
  refine wpList_plain hgd fun K hK => ?_
  obtain ⟨v', w', hr, h2, h3, h4⟩ := Lib.run_append_own_string (P := P) w base t u o.type e i ht hu hi hz hsize hby v n xs hown s (by unfold maxLen; omega) (by omega) hbase
  have h5 := append_str_where base t u o.type e i ht hu hi hz hsize hby hown s hb hr h4
  unfold Oper.wp execOp
  simp only [ho, resolve, invoke, builtin, Sem.run_bind, Sem.run_pure, Result.andThen_ok, List.map_toArray, List.map_cons, List.map_nil, hs, hx, hr]
  exact hK _ _ (h v' w' h2 h3 h5)
theorem strCells_ords (s : ByteArray) : Lib.strCells s = u8s (ordsOf s) := by
  unfold Lib.strCells u8s ordsOf
  simp

theorem cells1 {w : World} {P : Nat} {v : Value} {t : TypeId} (h : w.heap[P]? = some (.cells #[v] t (0, 0))) : w.cell? ⟨P, 0, none⟩ = some v ∧ w.frozen? ⟨P, 0, none⟩ = false :=
  ⟨by simp [World.cell?, h], by simp [World.frozen?, h]⟩
end Go.Proofs.YthbdchleppbidaaGreat
/- []byte of a text; an append inside a region that draws its order. -/
namespace Go.Proofs.YthbdchleppbidaaGreat
open Go.RowKit
/-- append(b, c...) in a region that draws its order -/
theorem step_append_own3 {P : Program} (w : World) {ops : Array Oper} {o : Oper} {a : Act} {K : Act → World → Prop} {Q : Exit → Act → World → Prop} {E : Prop} (hgd : o.guard = none) (s x : Operand) (t : TypeId)
    (ho : o.op = .call { callee := .builtin .append, args := #[s, x], argTypes := #[t, t] })
    (base : Nat) (e : TypeId) (i : TypeInfo) (z : Value) (size bytes : Nat) (ht : P.underlying t = some (.slice e)) (hi : P.info? e = some i) (hz : i.zero = some z)
    (hsize : i.size = size) (hby : i.bytes = bytes) (hzs : z.cells.size = size) (hsz : 0 < size)
    (v : Value) (n : Nat) (xs : List Value) (hs : a.eval s = v) (hown : w.ownsRow base e size v n xs)
    (y : Value) (m : Nat) (news : List Value) (hx : a.eval x = y) (hy : (y = .slice none 0 0 ∧ m = 0 ∧ news = []) ∨ ∃ ad c, y = .slice (some ad) m c ∧ news.length = m * size ∧ ∀ j u, news[j]? = some u → w.cell? (ad.add j) = some u) (h1 : ∀ u ∈ news, u.oneCell' = true)
    (h63 : n + m ≤ maxLen) (hbytes : (n + m) * bytes ≤ 140737488355328) (hbase : base ≤ w.heap.size)
    (h : ∀ v' w', w'.ownsRow base e size v' (n + m) (xs ++ news) → w.grownBy w' v.ownBlock → K (a.put o.dst v') w') : if Region.wanted o (yielded ops a.tmps) = true then Oper.wp P o a w K Q else E := by
  have hw : Region.wanted o (yielded ops a.tmps) = true := by simp [Region.wanted, hgd]
  rw [if_pos hw]
  rcases hy with ⟨rfl, rfl, rfl⟩ | ⟨ad, c, rfl, hl, hc⟩
  · have hrun := run_append_owned_none (P := P) (w := w) base t o.type e i size ht hi v n xs hown
    unfold Oper.wp
    simp [execOp, ho, resolve, invoke, builtin, hs, hx, hrun, Result.andThen]
    exact h _ _ (by simpa using hown) ⟨rfl, rfl, rfl, Nat.le_refl _, fun _ _ _ => rfl⟩
  · exact wp_append_own w s x t ho base e i z size bytes ht hi hz hsize hby hzs hsz v n xs hs hown ad m c news hx hl hc h1 h63 hbytes hbase fun v' w' h2 h3 _ => h v' w' h2 h3
/-- texts compared, as the walk has it -/
theorem text_beq (s t : ByteArray) : (s.toList == t.toList) = decide (s = t) := by
  rw [ByteArray.toList_eq, ByteArray.toList_eq]
  by_cases e : s = t
  · subst e; simp
  · have e2 : ¬ s.data.toList = t.data.toList := fun h => e (ByteArray.ext (Array.toList_inj.1 h))
    rw [decide_eq_false e]; simpa using fun h => e2 (by rw [h])
end Go.Proofs.YthbdchleppbidaaGreat
/- What the stages from 5 on share: arrays and rows as they lie, slices of them, bytes that came in, texts as rows. No function of the program. -/
namespace Go.Proofs.YthbdchleppbidaaGreat
open Go.RowKit Go.Deep Go.ChangeShapes Go.WideShapes

/-- an array in a block of its own -/
def Arr (w : World) (P : Nat) (t : TypeId) (l : List Value) : Prop := w.heap[P]? = some (.cells l.toArray t (0, 0))
theorem Arr.cell {w : World} {P : Nat} {t : TypeId} {l : List Value} (h : Arr w P t l) {i : Nat} {u : Value} (hu : l[i]? = some u) : w.cell? ⟨P, i, none⟩ = some u := by
  rw [cell_of_row w P i _ _ _ h]; simpa using hu
theorem Arr.free {w : World} {P : Nat} {t : TypeId} {l : List Value} (h : Arr w P t l) (i : Nat) : w.frozen? ⟨P, i, none⟩ = false := by
  unfold Arr at h; simp [World.frozen?, h]
theorem Arr.set {w : World} {P : Nat} {t : TypeId} {l : List Value} (h : Arr w P t l) (i : Nat) (u : Value) : Arr (w.setCell ⟨P, i, none⟩ u) P t (l.set i u) := by
  unfold Arr at h ⊢
  rw [heap_setCell_same w P i _ _ u h]; simp
theorem Arr.only {S : Nat → Prop} {w w' : World} {P : Nat} {t : TypeId} {l : List Value} (h : Arr w P t l) (ho : Only S w w') (hS : ¬ S P) : Arr w' P t l := (ho.block P (lt_of_block h) hS).trans h
theorem Arr.lt {w : World} {P : Nat} {t : TypeId} {l : List Value} (h : Arr w P t l) : P < w.heap.size := lt_of_block h
theorem lies_len {w : World} {v : Value} {bs : List Nat} (h : Lies w v bs) : ∃ a c, v = .slice a bs.length c := by
  rcases h with ⟨rfl, rfl⟩ | ⟨ad, c, rfl, rfl⟩ | ⟨b, off, c, rfl, _⟩ <;> exact ⟨_, _, rfl⟩
theorem own_empty (w : World) : (w.alloc (.cells #[] 5)).ownsRow w.heap.size 5 1 (.slice (some ⟨w.heap.size, 0, none⟩) 0 0) 0 [] :=
  ⟨rfl, .inr ⟨w.heap.size, 0, #[], rfl, Nat.le_refl _, heap_alloc_new w _, Nat.le_refl _, Nat.zero_le _, rfl, rfl⟩⟩
theorem lies_keep {w w' : World} {v : Value} {bs : List Nat} (h : Lies w v bs) (hb : Below w.heap.size w w') : Lies w' v bs := by
  rcases h with h | ⟨ad, c, h⟩ | ⟨b, off, c, h1, h2⟩
  · exact .inl h
  · exact .inr (.inl ⟨ad, c, h⟩)
  · exact .inr (.inr ⟨b, off, c, h1, fun j hj => by have hc := h2 j hj; rw [← hc]; exact hb.cell (p := ⟨b, off + j, none⟩) (by have := cell_lt hc; exact this)⟩)
theorem add_at (g off j : Nat) : (⟨g, off, none⟩ : Addr).add j = ⟨g, off + j, none⟩ := by unfold Addr.add; split <;> simp_all
theorem run_loadVar_part {P : Program} (w : World) (g off : Nat) (ty : TypeId) (cs : List Value) (d : TypeDesc) (hc : ∀ j v, cs[j]? = some v → w.cell? ⟨g, off + j, none⟩ = some v)
    (hu : P.underlying ty = some d) (hd : (match d with | .struct _ | .array _ _ => true | _ => false) = true) (hi : (P.info? ty).map (·.size) = some cs.length) :
    (loadVar ty ⟨g, off, none⟩).run P w = .ok (.agg cs.toArray) w := by
  have hl : (loadCells ⟨g, off, none⟩ cs.length).run P w = .ok cs.toArray w :=
    run_loadCells_list (P := P) w ⟨g, off, none⟩ cs (fun j v hv => by rw [add_at]; exact hc j v hv)
  cases hq : P.info? ty with
  | none => simp [hq] at hi
  | some i =>
    have hs : i.size = cs.length := by simpa [hq] using hi
    have hagg : (isAgg ty).run P w = .ok true w := by
      unfold isAgg
      rw [Sem.run_bind, run_underlying hu w]
      cases d <;> simp_all
    simp [loadVar, Sem.run_bind, hagg, sizeOf, typeInfo, hq, hs, hl]
theorem run_load_part {P : Program} (w : World) {o : Oper} {a : Act} (ty : TypeId) (x : Operand) (ho : o.op = .load ty x) (g off : Nat) (hx : a.eval x = .pointer (some ⟨g, off, none⟩)) (cs : List Value) (d : TypeDesc) (hc : ∀ j v, cs[j]? = some v → w.cell? ⟨g, off + j, none⟩ = some v)
    (hu : P.underlying ty = some d) (hd : (match d with | .struct _ | .array _ _ => true | _ => false) = true) (hi : (P.info? ty).map (·.size) = some cs.length) :
    (execOp a.eval o).run P w = .ok (.value (.agg cs.toArray)) w := by
  unfold execOp
  simp only [ho, hx, Instr.loadAt, Instr.sureAddr, Sem.run_bind, Sem.run_pure, Result.andThen_ok, run_loadVar_part w g off ty cs d hc hu hd hi]
theorem wpList_load_part {P : Program} {ops : Array Oper} {rest : List Oper} {o : Oper} {a : Act} {w : World} {Q : Exit → Act → World → Prop} (hgd : o.guard = none) (ty : TypeId) (x : Operand) (ho : o.op = .load ty x)
    (g off : Nat) (hx : a.eval x = .pointer (some ⟨g, off, none⟩)) (cs : List Value) (d : TypeDesc) (hc : ∀ j v, cs[j]? = some v → w.cell? ⟨g, off + j, none⟩ = some v)
    (hu : P.underlying ty = some d) (hd : (match d with | .struct _ | .array _ _ => true | _ => false) = true) (hi : (P.info? ty).map (·.size) = some cs.length)
    (h : wpList P ops Q rest (a.put o.dst (.agg cs.toArray)) w) : wpList P ops Q (o :: rest) a w :=
  wpList_plain hgd fun _ hK => by
    unfold Oper.wp
    rw [run_load_part w ty x ho g off hx cs d hc hu hd hi]
    exact hK _ _ h
theorem splice_at {α : Type} (L : List α) (off : Nat) (cs : List α) (h : off ≤ L.length) (k : Nat) : (splice L off cs)[k]? = if k < off then L[k]? else if k < off + cs.length then cs[k - off]? else L[k]? := by
  unfold splice
  by_cases h1 : k < off
  · rw [if_pos h1, List.getElem?_append_left (by simp; omega), List.getElem?_take, if_pos h1]
  · rw [if_neg h1, List.getElem?_append_right (by simp; omega), List.length_take, show min off L.length = off by omega]
    by_cases h2 : k < off + cs.length
    · rw [if_pos h2, List.getElem?_append_left (by omega)]
    · rw [if_neg h2, List.getElem?_append_right (by omega), List.getElem?_drop]
      congr 1; omega
/-- a row of cells laid over from a place on -/
theorem run_storeCells_part {P : Program} (g off : Nat) (t : TypeId) : ∀ (vs : List Value) (i : Nat) (cur : List Value) (w : World), w.heap[g]? = some (.cells cur.toArray t (0, 0)) → off + i + vs.length ≤ cur.length → (∀ v ∈ vs, v.oneCell' = true) →
    (storeCells ⟨g, off, none⟩ vs i).run P w = .ok () (w.setRow g (splice cur (off + i) vs).toArray)
  | [], i, cur, w, hg, hl, _ => by
    have e : splice cur (off + i) [] = cur := by simp [splice]
    have hlt : g < w.heap.size := (Array.getElem?_eq_some_iff.1 hg).1
    have hv : w.heap[g] = .cells cur.toArray t (0, 0) := (Array.getElem?_eq_some_iff.1 hg).2
    rw [e]
    simp only [storeCells]
    show Result.ok () w = _
    congr 1
    unfold World.setRow
    cases w with
    | mk heap tape drawn os output =>
      congr 1
      apply Array.ext
      · simp
      · intro k h1 h2
        simp only [Array.getElem_modify]
        split
        · rename_i hk; subst hk; simp at hv; simp [hv]
        · rfl
  | v :: rest, i, cur, w, hg, hl, h1 => by
    have hi : off + i < cur.length := by simp at hl; omega
    have hcell : w.cell? ⟨g, off + i, none⟩ = some cur[off + i] := by simp [World.cell?, hg, hi]
    have hfro : w.frozen? ⟨g, off + i, none⟩ = false := by simp [World.frozen?, hg]
    have hst : (store ((⟨g, off, none⟩ : Addr).add i) v).run P w = .ok () (w.setRow g (cur.set (off + i) v).toArray) := by
      rw [add_at, run_store P w _ v _ (h1 v (by simp)), hcell]
      simp [hfro, setCell_eq_setRow w g (off + i) cur.toArray t (0, 0) v hg]
    have ih := run_storeCells_part (P := P) g off t rest (i + 1) (cur.set (off + i) v) (w.setRow g (cur.set (off + i) v).toArray) (setRow_heap w g cur.toArray _ t _ hg) (by simp at hl ⊢; omega) (fun x hx => h1 x (by simp [hx]))
    simp only [storeCells, Sem.run_bind, hst, Result.andThen_ok, ih, setRow_setRow]
    congr 3
    apply List.ext_getElem?
    intro k
    rw [splice_at _ _ _ (by simp; omega), splice_at _ _ _ (by omega)]
    by_cases hk : k < off + i
    · rw [if_pos (by omega), if_pos hk, List.getElem?_set_ne (by omega)]
    · by_cases hk2 : k = off + i
      · subst hk2
        rw [if_pos (by omega), if_neg hk, if_pos (by simp), List.getElem?_set_self hi]
        simp
      · rw [if_neg (by omega), if_neg hk, show k - (off + i) = (k - (off + (i + 1))) + 1 by omega, List.getElem?_cons_succ, List.getElem?_set_ne (by omega)]
        simp only [List.length_cons]
        by_cases hk3 : k < off + (i + 1) + rest.length
        · rw [if_pos hk3, if_pos (by omega)]
        · rw [if_neg hk3, if_neg (by omega)]
theorem run_storeVar_part {P : Program} (w : World) (g off : Nat) (t ty : TypeId) (cur cs : List Value) (hg : w.heap[g]? = some (.cells cur.toArray t (0, 0))) (hi : (P.info? ty).map (·.size) = some cs.length)
    (hfit : off + cs.length ≤ cur.length) (h1 : ∀ v ∈ cs, v.oneCell' = true) : (storeVar ty ⟨g, off, none⟩ (.agg cs.toArray)).run P w = .ok () (w.setRow g (splice cur off cs).toArray) := by
  have := run_storeCells_part (P := P) g off t cs 0 cur w hg (by omega) h1
  cases hq : P.info? ty with
  | none => simp [hq] at hi
  | some i =>
    have hs : cs.length = i.size := by simp [hq] at hi; omega
    simp only [Nat.add_zero] at this
    simp [storeVar, sizeOf, typeInfo, hq, Value.cells, hs, this]
theorem wp_store_part {P : Program} {o : Oper} {a : Act} {w : World} {K : Act → World → Prop} {Q : Exit → Act → World → Prop} (ty : TypeId) (x y : Operand) (ho : o.op = .store ty x y)
    (g off : Nat) (cs : List Value) (hx : a.eval x = .pointer (some ⟨g, off, none⟩)) (hy : a.eval y = .agg cs.toArray)
    (t : TypeId) (cur : List Value) (hg : w.heap[g]? = some (.cells cur.toArray t (0, 0))) (hi : (P.info? ty).map (·.size) = some cs.length)
    (hfit : off + cs.length ≤ cur.length) (h1 : ∀ v ∈ cs, v.oneCell' = true)
    (h : K (a.put o.dst undef) (w.setRow g (splice cur off cs).toArray)) : o.wp P a w K Q := by
  unfold Oper.wp execOp
  simp only [ho, hx, hy, Instr.storeAt, Instr.sureAddr, Sem.run_bind, Sem.run_pure, Result.andThen_ok, run_storeVar_part w g off t ty cur cs hg hi hfit h1]
  exact h
theorem wpList_store_part {P : Program} {ops : Array Oper} {rest : List Oper} {o : Oper} {a : Act} {w : World} {Q : Exit → Act → World → Prop} (hgd : o.guard = none) (ty : TypeId) (x y : Operand) (ho : o.op = .store ty x y)
    (g off : Nat) (cs : List Value) (hx : a.eval x = .pointer (some ⟨g, off, none⟩)) (hy : a.eval y = .agg cs.toArray)
    (t : TypeId) (cur : List Value) (hg : w.heap[g]? = some (.cells cur.toArray t (0, 0))) (hi : (P.info? ty).map (·.size) = some cs.length)
    (hfit : off + cs.length ≤ cur.length) (h1 : ∀ v ∈ cs, v.oneCell' = true)
    (h : wpList P ops Q rest (a.put o.dst undef) (w.setRow g (splice cur off cs).toArray)) : wpList P ops Q (o :: rest) a w :=
  wpList_plain hgd fun _ hK => wp_store_part ty x y ho g off cs hx hy t cur hg hi hfit h1 (hK _ _ h)
/-- an array's value, indexed -/
theorem run_index_one {P : Program} (w : World) (t e : TypeId) (n : Nat) (cs : List Value) (k : IntKind) (i : Nat) (v : Value) (ht : P.underlying t = some (.array n e)) (d : TypeDesc) (he : P.underlying e = some d)
    (hd : (match d with | .struct _ | .array _ _ => true | _ => false) = false) (hs : (P.info? e).map (·.size) = some 1) (hi : i < n) (hv : cs[i]? = some v) :
    (Instr.index t (.agg cs.toArray) (.int k (i : Int))).run P w = .ok v w := by
  cases hq : P.info? e with
  | none => simp [hq] at hs
  | some ii =>
    have hss : ii.size = 1 := by simpa [hq] using hs
    have hagg : (isAgg e).run P w = .ok false w := by
      unfold isAgg
      rw [Sem.run_bind, run_underlying he w]
      cases d <;> simp_all
    have hp : (part e cs.toArray (i * 1)).run P w = .ok v w := by
      unfold part
      rw [Sem.run_bind, hagg]
      simp [hv]
    have hin : (0 : Int) ≤ (i : Int) ∧ (i : Int) < (n : Int) := by omega
    unfold part at hp
    simp only [Sem.run_bind, hagg, Result.andThen_ok, Nat.mul_one] at hp
    simp [Instr.index, asIntOf, Sem.run_bind, run_underlying ht w, hi, sizeOf, typeInfo, hq, hss, part, hagg, hv]
theorem wpList_index_one {P : Program} {ops : Array Oper} {rest : List Oper} {o : Oper} {a : Act} {w : World} {Q : Exit → Act → World → Prop} (hgd : o.guard = none) (t : TypeId) (x y : Operand) (ho : o.op = .index t x y)
    (cs : List Value) (k : IntKind) (i : Nat) (v : Value) (hx : a.eval x = .agg cs.toArray) (hy : a.eval y = .int k (i : Int)) (n : Nat) (e : TypeId) (d : TypeDesc) (ht : P.underlying t = some (.array n e)) (he : P.underlying e = some d)
    (hd : (match d with | .struct _ | .array _ _ => true | _ => false) = false) (hs : (P.info? e).map (·.size) = some 1) (hi : i < n) (hv : cs[i]? = some v)
    (h : wpList P ops Q rest (a.put o.dst v) w) : wpList P ops Q (o :: rest) a w :=
  wpList_plain hgd fun _ hK => by
    unfold Oper.wp execOp
    simp only [ho, hx, hy, Sem.run_bind, Sem.run_pure, Result.andThen_ok, run_index_one w t e n cs k i v ht d he hd hs hi hv]
    exact hK _ _ h
theorem arr_new (w : World) (t : TypeId) (l : List Value) : Arr (w.alloc (.cells l.toArray t)) w.heap.size t l := heap_alloc_new w _
theorem Arr.alloc {w : World} {P : Nat} {t : TypeId} {l : List Value} (h : Arr w P t l) (o : Obj) : Arr (w.alloc o) P t l := by
  have h0 := h.lt
  unfold Arr at h ⊢; exact (Below.heap_alloc _ _ _ h0).trans h
theorem all_one {l : List Value} (h : ∀ u ∈ l, u.oneCell' = true) : l.toArray.all (·.oneCell') = true := by
  rw [Array.all_eq_true_iff_forall_mem]; intro u hu; exact h u (by simpa using hu)
/-- b[n:] of a slice of one-cell elements, its value behind a letter -/
def tailS (b off m cap n : Nat) : Value := .slice (some (if cap = n then ⟨b, off, none⟩ else ⟨b, off + n, none⟩)) (m - n) (cap - n)
theorem run_tail {P : Program} (w : World) (t e : TypeId) (ht : P.underlying t = some (.slice e)) (hs : (P.info? e).map (·.size) = some 1) (b off m cap n : Nat) (k : IntKind) (hn : n ≤ m) :
    (Instr.slice t (.slice (some ⟨b, off, none⟩) m cap) (some (.int k (n : Int))) none none).run P w = .ok (tailS b off m cap n) w := by
  cases hq : P.info? e with
  | none => simp [hq] at hs
  | some ii =>
    have hss : ii.size = 1 := by simpa [hq] using hs
    have hsz : (sizeOf e).run P w = .ok 1 w := by simp [sizeOf, typeInfo, hq, hss]
    have hb : (Instr.sliceBounds true m cap (some (.int k (n : Int))) none none).run P w = .ok (n, m, cap) w := by
      simp [Instr.sliceBounds, Instr.sliceBound, asIntOf, hn]
    simp only [Instr.slice, Sem.run_bind, run_underlying ht, Result.andThen_ok, hb, hsz, Sem.run_pure, tailS]
    congr 3
    by_cases hc : cap = n
    · rw [if_pos hc, if_pos hc]
    · rw [if_neg hc, if_neg hc, Option.map_some, add_at, Nat.mul_one]
theorem wpList_tail {P : Program} {ops : Array Oper} {rest : List Oper} {o : Oper} {a : Act} {w : World} {Q : Exit → Act → World → Prop} (hgd : o.guard = none) (t : TypeId) (x y : Operand) (ho : o.op = .slice t x (some y) none none)
    (e : TypeId) (ht : P.underlying t = some (.slice e)) (hs : (P.info? e).map (·.size) = some 1) (b off m cap n : Nat) (k : IntKind) (hx : a.eval x = .slice (some ⟨b, off, none⟩) m cap) (hy : a.eval y = .int k (n : Int)) (hn : n ≤ m)
    (h : ∀ V, Hid (V = tailS b off m cap n) → wpList P ops Q rest (a.put o.dst V) w) : wpList P ops Q (o :: rest) a w :=
  wpList_plain hgd fun _ hK => by
    have hat : (Instr.sliceAt t (.slice (some ⟨b, off, none⟩) m cap) (some (.int k (n : Int))) none none).run P w = .ok (tailS b off m cap n) w := by
      rw [← run_tail w t e ht hs b off m cap n k hn]
      simp [Instr.sliceAt, run_underlying ht]
    unfold Oper.wp execOp
    simp only [ho, hx, hy, Option.map_some, Option.map_none, Sem.run_bind, Sem.run_pure, hat, Result.andThen_ok]
    exact hK _ _ (h _ rfl)
/-- a[:n:n] of an array -/
theorem run_cut {P : Program} (w : World) (t e : TypeId) (N : Nat) (ht : P.underlying t = some (.array N e)) (hs : (P.info? e).map (·.size) = some 1) (g off n : Nat) (k : IntKind) (hn : n ≤ N) :
    (Instr.sliceAt t (.pointer (some ⟨g, off, none⟩)) none (some (.int k (n : Int))) (some (.int k (n : Int)))).run P w = .ok (.slice (some ⟨g, off, none⟩) n n) w := by
  cases hq : P.info? e with
  | none => simp [hq] at hs
  | some ii =>
    have hss : ii.size = 1 := by simpa [hq] using hs
    have hsz : (sizeOf e).run P w = .ok 1 w := by simp [sizeOf, typeInfo, hq, hss]
    have hb : (Instr.sliceBounds false N N none (some (.int k (n : Int))) (some (.int k (n : Int)))).run P w = .ok (0, n, n) w := by
      simp [Instr.sliceBounds, Instr.sliceBound, asIntOf, hn]
    simp only [Instr.sliceAt, Instr.sureAddr, Sem.run_bind, run_underlying ht, Result.andThen_ok, hb, hsz, Sem.run_pure]
    congr 3
    by_cases hc : n = 0
    · rw [if_pos hc]
    · rw [if_neg hc, add_at, Nat.zero_mul, Nat.add_zero]
theorem wpList_cut {P : Program} {ops : Array Oper} {rest : List Oper} {o : Oper} {a : Act} {w : World} {Q : Exit → Act → World → Prop} (hgd : o.guard = none) (t : TypeId) (x y z : Operand) (ho : o.op = .slice t x none (some y) (some z))
    (e : TypeId) (N : Nat) (ht : P.underlying t = some (.array N e)) (hs : (P.info? e).map (·.size) = some 1) (g off n : Nat) (k : IntKind) (hx : a.eval x = .pointer (some ⟨g, off, none⟩)) (hy : a.eval y = .int k (n : Int)) (hz : a.eval z = .int k (n : Int)) (hn : n ≤ N)
    (h : wpList P ops Q rest (a.put o.dst (.slice (some ⟨g, off, none⟩) n n)) w) : wpList P ops Q (o :: rest) a w :=
  wpList_plain hgd fun _ hK => by
    unfold Oper.wp execOp
    simp only [ho, hx, hy, hz, Option.map_some, Option.map_none, Sem.run_bind, Sem.run_pure, run_cut w t e N ht hs g off n k hn, Result.andThen_ok]
    exact hK _ _ h
/-- a guard: the operation's slot -/
theorem wpList_dst {P : Program} {ops : Array Oper} {rest : List Oper} {o : Oper} {a : Act} {w : World} {Q : Exit → Act → World → Prop} (d : Option Tmp) (_hd : o.dst = d) (h : wpList P ops Q (o :: rest) a w) : wpList P ops Q (o :: rest) a w := h
/-- the world at hand by a letter -/
theorem wpList_name {P : Program} {ops : Array Oper} {l : List Oper} {a : Act} {w : World} {Q : Exit → Act → World → Prop} (h : ∀ W, Hid (W = w) → wpList P ops Q l a W) : wpList P ops Q l a w := h w rfl
theorem calls_name {P : Program} {f : FuncId} {args : Array Value} {w : World} {Q : Ending → World → Prop} (h : ∀ W, Hid (W = w) → Calls P f args W Q) : Calls P f args w Q := h w rfl
/-- in a region's head that only reads: an operation by what its run gives -/
theorem wpStill_value {P : Program} {ops : Array Oper} {w : World} {Q : Act → Prop} {rest : List Oper} {o : Oper} {a : Act} {v : Value} (hgd : o.guard = none) (hr : (execOp a.eval o).run P w = .ok (.value v) w)
    (h : wpStill P ops w Q rest (a.put o.dst v)) : wpStill P ops w Q (o :: rest) a := by
  refine wpStill_step fun K hK => ?_
  rw [if_pos (by simp [Region.wanted, hgd])]
  unfold Oper.still
  rw [hr, Oper.stillUpon_value]
  exact hK _ h
/-- in a region that draws its order: an operation by what its run gives; a store into a part of a block -/
theorem step_value {P : Program} {ops : Array Oper} {o : Oper} {a : Act} {w : World} {K : Act → World → Prop} {Q : Exit → Act → World → Prop} {E : Prop} {v : Value} (hgd : o.guard = none) (hr : (execOp a.eval o).run P w = .ok (.value v) w)
    (h : K (a.put o.dst v) w) : if Region.wanted o (yielded ops a.tmps) = true then Oper.wp P o a w K Q else E := by
  rw [if_pos (by simp [Region.wanted, hgd])]
  unfold Oper.wp
  rw [hr]
  exact h
theorem step_store_part {P : Program} {ops : Array Oper} {o : Oper} {a : Act} {w : World} {K : Act → World → Prop} {Q : Exit → Act → World → Prop} {E : Prop} (hgd : o.guard = none) (ty : TypeId) (x y : Operand) (ho : o.op = .store ty x y)
    (g off : Nat) (cs : List Value) (hx : a.eval x = .pointer (some ⟨g, off, none⟩)) (hy : a.eval y = .agg cs.toArray)
    (t : TypeId) (cur : List Value) (hg : w.heap[g]? = some (.cells cur.toArray t (0, 0))) (hi : (P.info? ty).map (·.size) = some cs.length)
    (hfit : off + cs.length ≤ cur.length) (h1 : ∀ v ∈ cs, v.oneCell' = true)
    (hd : o.dst = none) (h : K a (w.setRow g (splice cur off cs).toArray)) : if Region.wanted o (yielded ops a.tmps) = true then Oper.wp P o a w K Q else E := by
  rw [if_pos (by simp [Region.wanted, hgd])]
  exact wp_store_part ty x y ho g off cs hx hy t cur hg hi hfit h1 (by rw [hd]; exact h)
/-- to stop a walk at an operation: 'repeat (fail_if_success (refine wpList_at (op := ..) rfl ?_); first | ..)' -/
theorem wpList_at {P : Program} {ops : Array Oper} {rest : List Oper} {o : Oper} {a : Act} {w : World} {Q : Exit → Act → World → Prop} (op : Op) (_ho : o.op = op) (h : wpList P ops Q (o :: rest) a w) : wpList P ops Q (o :: rest) a w := h
/-- a new variable, its noughts said -/
theorem wpList_alloc_zero {P : Program} {ops : Array Oper} {rest : List Oper} {o : Oper} {a : Act} {w : World} {Q : Exit → Act → World → Prop} (hgd : o.guard = none) (t : TypeId) (ho : o.op = .alloc t) (z : List Value)
    (hz : ((P.info? t).bind (·.zero)).map (·.cells) = some z.toArray)
    (h : wpList P ops Q rest (a.put o.dst (.pointer (some ⟨w.heap.size, 0, none⟩))) (w.alloc (.cells z.toArray t))) : wpList P ops Q (o :: rest) a w := by
  refine wpList_plain hgd fun K hK => ?_
  cases hi : P.info? t with
  | none => simp [hi] at hz
  | some i =>
    cases hzz : i.zero with
    | none => simp [hi, hzz] at hz
    | some v =>
      have hv : v.cells = z.toArray := by simpa [hi, hzz] using hz
      have hzv : (zeroValue t).run P w = .ok v w := by simp [zeroValue, typeInfo, hi, hzz]
      unfold Oper.wp execOp
      simp only [ho, Instr.alloc, newVar, newRow, Sem.run_bind, hzv, run_newObj_alloc, Sem.run_pure, Result.andThen_ok, hv]
      exact hK _ _ h
/-- a build whose parts are closed, its cells said -/
theorem wpList_build_said {P : Program} {ops : Array Oper} {rest : List Oper} {o : Oper} {a : Act} {w : World} {Q : Exit → Act → World → Prop} (hg : o.guard = none) (t : TypeId) (parts : Array (Nat × Operand)) (ho : o.op = .build t parts)
    (cells : Array Value) (hf : P.built t (parts.map fun (i, x) => (i, a.eval x)).toList = some cells)
    (h : wpList P ops Q rest (a.put o.dst (.agg cells)) w) : wpList P ops Q (o :: rest) a w := by
  refine wpList_build hg t parts ho (by rw [hf]; rfl) ?_
  rw [hf]
  exact h
/-- an array's value into a block of its own -/
theorem wpList_box_agg {P : Program} {ops : Array Oper} {rest : List Oper} {o : Oper} {a : Act} {w : World} {Q : Exit → Act → World → Prop} (hg : o.guard = none) (t : TypeId) (x : Operand) (ho : o.op = .box t x) (cs : Array Value) (hx : a.eval x = .agg cs)
    (h : wpList P ops Q rest (a.put o.dst (.pointer (some ⟨w.heap.size, 0, none⟩))) (w.alloc (.cells cs t))) : wpList P ops Q (o :: rest) a w := by
  refine wpList_plain hg fun K hK => ?_
  unfold Oper.wp execOp
  simp only [ho, hx, Sem.run_bind, Instr.box, newVar, newRow, run_newObj_alloc, Sem.run_pure, Result.andThen_ok]
  exact hK _ _ h
/-- a slice whose length its capacity holds -/
def Fits (v : Value) : Prop := ∀ a m c, v = .slice a m c → m ≤ c
theorem fits_slice {a : Option Addr} {m c : Nat} (h : m ≤ c) : Fits (.slice a m c) := fun _ _ _ e => by cases e; exact h
/-- '[]byte(..)' of a constant: its row by its own type -/
theorem wpList_conv_const {P : Program} {ops : Array Oper} {rest : List Oper} {o : Oper} {a : Act} {w : World} {Q : Exit → Act → World → Prop} (hgd : o.guard = none) (t e : TypeId) (x : Operand) (ho : o.op = .convert t t x)
    (C : Array Value) (n c : Nat) (hx : a.eval x = .slice (some ⟨w.heap.size, 0, none⟩) n c) (ht : P.underlying t = some (.slice e)) (he : P.underlying e = some (.int .u8))
    (h : wpList P ops Q rest (a.put o.dst (.slice (some ⟨w.heap.size, 0, none⟩) n c)) (w.alloc (.cells C e (C.size, C.size + 1)))) : wpList P ops Q (o :: rest) a (w.alloc (.cells C e)) :=
  wpList_plain hgd fun K hK => by
    unfold Oper.wp execOp
    simp only [ho, hx, Sem.run_bind, Lib.run_convert_bytes_const w t e C n c ht he, Result.andThen_ok, Sem.run_pure]
    exact hK _ _ h
theorem const_lies (w : World) (l : List Nat) (fr : Nat × Nat) : Lies (w.alloc (.cells (u8s l).toArray 5 fr)) (.slice (some ⟨w.heap.size, 0, none⟩) l.length l.length) l := by
  refine .inr (.inr ⟨w.heap.size, 0, l.length, rfl, fun j hj => ?_⟩)
  rw [cell_of_row _ w.heap.size (0 + j) _ _ _ (heap_alloc_new w _), Nat.zero_add]
  simpa using u8s_getD l j hj
theorem items_same (w : World) (d : Nat) (l : List Nat) : ∀ is : List Nat, (∀ i ∈ is, i < l.length) → (Op.eqItems (d + 1) 5 1 (u8s l).toArray (u8s l).toArray is).run Tryz.prog w = .ok true w
  | [], _ => by simp [Op.eqItems]
  | i :: is, h => by
    have hi := h i (by simp)
    have hp : (part 5 (u8s l).toArray (i * 1)).run Tryz.prog w = .ok (.int .u8 ((l.getD i 0 : Nat) : Int)) w := by
      have hagg : (isAgg 5).run Tryz.prog w = .ok false w := by
        unfold isAgg
        rw [Sem.run_bind, run_underlying Tryz.underlying5 w]
        rfl
      have hg := u8s_getD l i hi
      unfold part
      rw [Sem.run_bind, hagg]
      simp only [Result.andThen_ok, Nat.mul_one, List.getElem?_toArray, hg]
      rfl
    have ih := items_same w d l is (fun j hj => h j (by simp [hj]))
    simp only [Op.eqItems, Sem.run_bind, hp, Result.andThen_ok, run_equalIn_int w d 5 .u8 .u8 _ _ Tryz.underlying5, beq_self_eq_true]
    simpa using ih
def midS (a : Option Addr) (cap lo hi : Nat) : Value := .slice (if cap = lo then a else a.map (·.add lo)) (hi - lo) (cap - lo)
theorem run_mid {P : Program} (w : World) (t e : TypeId) (ht : P.underlying t = some (.slice e)) (hs : (P.info? e).map (·.size) = some 1) (a : Option Addr) (m cap lo hi : Nat) (low high : Option Value)
    (hb : (Instr.sliceBounds true m cap low high none).run P w = .ok (lo, hi, cap) w) :
    (Instr.sliceAt t (.slice a m cap) low high none).run P w = .ok (midS a cap lo hi) w := by
  cases hq : P.info? e with
  | none => simp [hq] at hs
  | some ii =>
    have hss : ii.size = 1 := by simpa [hq] using hs
    have hsz : (sizeOf e).run P w = .ok 1 w := by simp [sizeOf, typeInfo, hq, hss]
    have h1 : (Instr.sliceAt t (.slice a m cap) low high none).run P w = (Instr.slice t (.slice a m cap) low high none).run P w := by simp [Instr.sliceAt, run_underlying ht]
    rw [h1]
    simp only [Instr.slice, Sem.run_bind, run_underlying ht, Result.andThen_ok, hb, hsz, Sem.run_pure, midS, Nat.mul_one]
theorem bounds_lh {P : Program} (w : World) (m cap lo hi : Nat) (h1 : lo ≤ hi) (h2 : hi ≤ cap) : (Instr.sliceBounds true m cap (some (.int .i64 (lo : Int))) (some (.int .i64 (hi : Int))) none).run P w = .ok (lo, hi, cap) w := by
  simp [Instr.sliceBounds, Instr.sliceBound, asIntOf, h1, h2]
theorem bounds_h {P : Program} (w : World) (m cap hi : Nat) (h2 : hi ≤ cap) : (Instr.sliceBounds true m cap none (some (.int .i64 (hi : Int))) none).run P w = .ok (0, hi, cap) w := by
  simp [Instr.sliceBounds, Instr.sliceBound, asIntOf, h2]
theorem bounds_l {P : Program} (w : World) (m cap lo : Nat) (h1 : lo ≤ m) : (Instr.sliceBounds true m cap (some (.int .i64 (lo : Int))) none none).run P w = .ok (lo, m, cap) w := by
  simp [Instr.sliceBounds, Instr.sliceBound, asIntOf, h1]
theorem run_mid_op {P : Program} (w : World) {o : Oper} {a : Act} (t : TypeId) (x : Operand) (lo hi : Option Operand) (ho : o.op = .slice t x lo hi none) (e : TypeId) (ht : P.underlying t = some (.slice e)) (hs : (P.info? e).map (·.size) = some 1)
    (a0 : Option Addr) (m cap l h : Nat) (low high : Option Value) (hx : a.eval x = .slice a0 m cap) (hlo : lo.map a.eval = low) (hhi : hi.map a.eval = high) (hb : ∀ w, (Instr.sliceBounds true m cap low high none).run P w = .ok (l, h, cap) w) :
    (execOp a.eval o).run P w = .ok (.value (midS a0 cap l h)) w := by
  unfold execOp
  simp only [ho, hx, hlo, hhi, Option.map_none, Sem.run_bind, run_mid w t e ht hs a0 m cap l h low high (hb w), Result.andThen_ok, Sem.run_pure]
theorem wpList_mid {P : Program} {ops : Array Oper} {rest : List Oper} {o : Oper} {a : Act} {w : World} {Q : Exit → Act → World → Prop} (hgd : o.guard = none) (t : TypeId) (x : Operand) (lo hi : Option Operand) (ho : o.op = .slice t x lo hi none)
    (e : TypeId) (ht : P.underlying t = some (.slice e)) (hs : (P.info? e).map (·.size) = some 1) (a0 : Option Addr) (m cap l h : Nat) (low high : Option Value) (hx : a.eval x = .slice a0 m cap) (hlo : lo.map a.eval = low) (hhi : hi.map a.eval = high)
    (hb : ∀ w, (Instr.sliceBounds true m cap low high none).run P w = .ok (l, h, cap) w) (hK : ∀ V, Hid (V = midS a0 cap l h) → wpList P ops Q rest (a.put o.dst V) w) : wpList P ops Q (o :: rest) a w :=
  wpList_plain hgd fun _ hK' => by
    unfold Oper.wp
    rw [run_mid_op w t x lo hi ho e ht hs a0 m cap l h low high hx hlo hhi hb]
    exact hK' _ _ (hK _ rfl)
theorem lies_mid {w : World} {a : Option Addr} {c : Nat} {bs : List Nat} (hv : Lies w (.slice a bs.length c) bs) (hf : bs.length ≤ c) {lo hi : Nat} (h1 : lo ≤ hi) (h2 : hi ≤ bs.length) : Lies w (midS a c lo hi) ((bs.drop lo).take (hi - lo)) := by
  unfold midS
  rcases hv with ⟨hv, rfl⟩ | ⟨ad, c', hv, rfl⟩ | ⟨b, off, c', hv, hb⟩
  · cases hv
    have h3 : hi = 0 := by simpa using h2
    subst h3
    have h4 : lo = 0 := by omega
    subst h4
    exact .inl ⟨by simp, by simp⟩
  · cases hv
    have h3 : hi = 0 := by simpa using h2
    subst h3
    have h4 : lo = 0 := by omega
    subst h4
    refine .inr (.inl ⟨ad, c, ?_, by simp⟩)
    simp [Addr.add]
  · cases hv
    have hl : ((bs.drop lo).take (hi - lo)).length = hi - lo := by rw [List.length_take, List.length_drop]; omega
    by_cases he : hi - lo = 0
    · refine .inr (.inl ⟨if c = lo then ⟨b, off, none⟩ else ⟨b, off + lo, none⟩, c - lo, ?_, List.length_eq_zero_iff.1 (by rw [hl]; exact he)⟩)
      rw [he]
      split <;> simp [add_at]
    · refine .inr (.inr ⟨b, off + lo, c - lo, ?_, fun j hj => ?_⟩)
      · rw [hl, if_neg (by omega), Option.map_some, add_at]
      · rw [hl] at hj
        have := hb (lo + j) (by omega)
        rw [Nat.add_assoc, this]
        simp [List.getD, hj]
theorem fits_mid {a : Option Addr} {c lo hi : Nat} (h : hi ≤ c) : Fits (midS a c lo hi) := fits_slice (by omega)
theorem own_fits {w : World} {B : Nat} {e : TypeId} {v : Value} {n : Nat} {xs : List Value} (h : w.ownsRow B e 1 v n xs) : Fits v := by
  rcases h.2 with ⟨rfl, h0⟩ | ⟨g, cap, cur, rfl, _, _, hc, _⟩
  · exact fits_slice (Nat.le_refl _)
  · exact fits_slice hc
theorem lies_form {w : World} {v : Value} {bs : List Nat} (h : Lies w v bs) : ∃ a c, v = .slice a bs.length c ∧ (bs ≠ [] → ∃ b off, a = some ⟨b, off, none⟩ ∧ BytesAt w b off bs) := by
  rcases h with ⟨rfl, rfl⟩ | ⟨ad, c, rfl, rfl⟩ | ⟨b, off, c, rfl, hb⟩
  · exact ⟨_, _, rfl, fun h => absurd rfl h⟩
  · exact ⟨_, _, rfl, fun h => absurd rfl h⟩
  · exact ⟨_, _, rfl, fun _ => ⟨_, _, rfl, hb⟩⟩
theorem getD_byte {l : List Nat} (hb : ∀ x ∈ l, x < 256) (k : Nat) : l.getD k 0 < 256 := by
  by_cases h : k < l.length
  · simp [List.getD, h]; exact hb _ (List.getElem_mem h)
  · simp [List.getD, List.getElem?_eq_none (Nat.le_of_not_lt h)]
/-- rows of one length, the same at each place -/
theorem same_list {a b : List Nat} (hn : a.length = b.length) (h : ∀ j, j < max a.length b.length → a.getD j 0 = b.getD j 0) : a = b := by
  refine List.ext_getElem hn fun j h1 h2 => ?_
  have := h j (by omega)
  simpa [List.getD, h1, h2] using this
theorem u8s_set (l : List Nat) (i x : Nat) : (u8s l).set i (.int .u8 (x : Int)) = u8s (l.set i x) := by simp [u8s, List.map_set]
theorem u8s_some {l : List Nat} {i x : Nat} (h : l[i]? = some x) : (u8s l)[i]? = some (.int .u8 (x : Int)) := by rw [u8s_get, h]; rfl
theorem arr_bytes {w : World} {P : Nat} {t : TypeId} {l : List Nat} (h : Arr w P t (u8s l)) : BytesAt w P 0 l := fun j hj => by
  rw [Nat.zero_add]
  exact h.cell (u8s_getD l j hj)
theorem splice_whole {α : Type} {l cs : List α} (h : l.length = cs.length) : splice l 0 cs = cs := by unfold splice; rw [List.take_zero, List.nil_append, Nat.zero_add, ← h, List.drop_length, List.append_nil]
theorem lies_arr {w : World} {P c : Nat} {t : TypeId} {l : List Nat} (h : Arr w P t (u8s l)) : Lies w (.slice (some ⟨P, 0, none⟩) l.length c) l := .inr (.inr ⟨P, 0, c, rfl, arr_bytes h⟩)
theorem ords_inj {s t : ByteArray} (h : ordsOf s = ordsOf t) : s = t := by rw [← strOf_ords s, ← strOf_ords t, h]
theorem ords_extract (s : ByteArray) (lo hi : Nat) : ordsOf (s.extract lo hi) = ((ordsOf s).drop lo).take (hi - lo) := by
  unfold ordsOf
  rw [ByteArray.data_extract, Array.toList_extract, List.extract_eq_take_drop, ← List.map_drop, ← List.map_take]
/-- an operation of a region that draws its order, by what its run gives -/
theorem step_run {P : Program} {ops : Array Oper} {o : Oper} {a : Act} {w w' : World} {K : Act → World → Prop} {Q : Exit → Act → World → Prop} {E : Prop} {v : Value} (hgd : o.guard = none) (hr : (execOp a.eval o).run P w = .ok (.value v) w')
    (h : K (a.put o.dst v) w') : if Region.wanted o (yielded ops a.tmps) = true then Oper.wp P o a w K Q else E := by
  rw [if_pos (by simp [Region.wanted, hgd])]
  unfold Oper.wp
  rw [hr]
  exact h
/-- at g a row whose first bytes are l, none of them frozen -/
def MRow (w : World) (g : Nat) (l : List Nat) : Prop := ∃ cells fr, w.heap[g]? = some (.cells cells 5 fr) ∧ l.length ≤ cells.size ∧ l.length ≤ fr.1 ∧ ∀ j, j < l.length → cells[j]? = some (.int .u8 ((l.getD j 0 : Nat) : Int))
theorem MRow.cell {w : World} {g : Nat} {l : List Nat} (h : MRow w g l) {j : Nat} (hj : j < l.length) : w.cell? ⟨g, j, none⟩ = some (.int .u8 ((l.getD j 0 : Nat) : Int)) := by
  obtain ⟨cells, fr, h1, _, _, h4⟩ := h
  rw [cell_of_row w g j _ _ _ h1, h4 j hj]
theorem MRow.lies {w : World} {g cap : Nat} {l : List Nat} (h : MRow w g l) : Lies w (.slice (some ⟨g, 0, none⟩) l.length cap) l := .inr (.inr ⟨g, 0, cap, rfl, fun j hj => by rw [Nat.zero_add]; exact h.cell hj⟩)
theorem MRow.free {w : World} {g : Nat} {l : List Nat} (h : MRow w g l) {j : Nat} (hj : j < l.length) : w.frozen? ⟨g, j, none⟩ = false := by
  obtain ⟨cells, ⟨f1, f2⟩, h1, _, h3, _⟩ := h
  simp only [World.frozen?, h1]
  have : ¬ f1 ≤ j := by have : l.length ≤ f1 := h3; omega
  simp [this]
theorem MRow.set {w : World} {g : Nat} {l : List Nat} (h : MRow w g l) (i z : Nat) : MRow (w.setCell ⟨g, i, none⟩ (.int .u8 (z : Int))) g (l.set i z) := by
  obtain ⟨cells, fr, h1, h2, h3, h4⟩ := h
  refine ⟨cells.setIfInBounds i (.int .u8 (z : Int)), fr, ?_, by simpa using h2, by simpa using h3, fun j hj => ?_⟩
  · rw [setCell_eq_setRow w g i cells _ fr _ h1]
    exact setRow_heap _ _ _ _ _ _ h1
  · rw [List.length_set] at hj
    rw [Array.getElem?_setIfInBounds]
    by_cases hij : i = j
    · subst hij
      rw [if_pos rfl, if_pos (by omega)]
      simp [List.getD, hj]
    · rw [if_neg hij, h4 j hj]
      simp [List.getD, hij]
theorem MRow.lt {w : World} {g : Nat} {l : List Nat} (h : MRow w g l) : g < w.heap.size := by
  obtain ⟨cells, fr, h1, _⟩ := h
  exact (Array.getElem?_eq_some_iff.1 h1).1
theorem MRow.beyond {w w' : World} {g : Nat} {l : List Nat} (h : MRow w g l) (hb : Below w.heap.size w w') : MRow w' g l := by
  have h0 := h.lt
  obtain ⟨cells, fr, h1, h2⟩ := h
  exact ⟨cells, fr, (hb.block g h0).trans h1, h2⟩
theorem strOf_toList (l : List Nat) : (strOf l).toList = l.map UInt8.ofNat := by rw [ByteArray.toList_eq]; simp [strOf]
theorem ords_get (s : ByteArray) (k : Nat) (h : k < s.size) : (ordsOf s)[k]? = some (s[k]'h).toNat := by
  unfold ordsOf
  rw [List.getElem?_map]
  have : k < s.data.size := h
  rw [Array.getElem?_toList, Array.getElem?_eq_getElem this]; rfl
/-- the first i of a list, and noughts -/
def fillL (A : List Nat) (n i : Nat) : List Nat := A.take i ++ List.replicate (n - i) 0
theorem fill_full {A : List Nat} {n : Nat} (hA : A.length = n) : fillL A n n = A := by unfold fillL; simp [← hA]
theorem fill_at {A : List Nat} {n i j x : Nat} (hj : j < i) (hA : A[j]? = some x) : (fillL A n i)[j]? = some x := by
  have hl : j < A.length := (List.getElem?_eq_some_iff.1 hA).1
  unfold fillL
  rw [List.getElem?_append_left (by simp; omega), List.getElem?_take, if_pos hj, hA]
/-- an arm's guard, under 'with_reducible': is the goal a list of operations at all? (a refine of a law of lists at a whole region unfolds it: 18 s) -/
theorem wpList_here {P : Program} {ops : Array Oper} {l : List Oper} {a : Act} {w : World} {Q : Exit → Act → World → Prop} (h : wpList P ops Q l a w) : wpList P ops Q l a w := h
theorem info_u8 : ∃ i, Tryz.prog.info? 5 = some i ∧ i.zero = some (.int .u8 0) ∧ i.size = 1 ∧ i.bytes = 1 := by
  have h := infoU8
  cases hi : Tryz.prog.info? 5 with
  | none => rw [hi] at h; simp at h
  | some i => rw [hi] at h; simp at h; exact ⟨i, rfl, h.1, h.2.1, h.2.2⟩
theorem byte_new (W : World) (x : Nat) : Lies (W.alloc (.cells #[.int .u8 (x : Int)] 5)) (.slice (some ⟨W.heap.size, 0, none⟩) 1 1) [x] := const_lies W [x] (0, 0)
theorem own_alloc {W : World} {B : Nat} {e : TypeId} {s : Nat} {v : Value} {n : Nat} {xs : List Value} (h : W.ownsRow B e s v n xs) (o : Obj) : (W.alloc o).ownsRow B e s v n xs := row_only h (Only.alloc (fun _ => False) W o) (fun _ _ h => h)
theorem arr_full {w : World} {B g n : Nat} {e : TypeId} {xs : List Value} (h : w.ownsRow B e 1 (.slice (some ⟨g, 0, none⟩) n n) n xs) : Arr w g e xs := by
  rcases h.2 with ⟨hv, _⟩ | ⟨g', cap, cur, hv, _, hg, _, _, hc, ht⟩
  · cases hv
  · cases hv
    have : cur.toList = xs := by rw [← ht, List.take_of_length_le (by simp at hc ⊢; omega)]
    unfold Arr; rw [← this]; simpa using hg
theorem full_arr {w : World} {B g n : Nat} {e : TypeId} {xs : List Value} (h : Arr w g e xs) (hB : B ≤ g) (hn : xs.length = n) (hm : n ≤ maxLen) : w.ownsRow B e 1 (.slice (some ⟨g, 0, none⟩) n n) n xs := by
  refine ⟨by omega, .inr ⟨g, n, xs.toArray, rfl, hB, h, Nat.le_refl _, hm, by simpa using hn, ?_⟩⟩
  rw [Nat.mul_one, List.take_of_length_le (by simpa using Nat.le_of_eq hn)]
theorem made_u8 (n : Nat) : (madeCells (Value.int .u8 0).cells (n * 1)).toList = u8s (List.replicate n 0) := by
  unfold madeCells u8s
  rw [Nat.mul_one, Array.toList_map, Array.toList_range, List.map_replicate]
  refine List.ext_getElem (by simp) fun i h1 h2 => ?_
  simp [Value.cells, Nat.mod_one]
/-- an operation by what its run gives -/
theorem wpList_value {P : Program} {ops : Array Oper} {rest : List Oper} {o : Oper} {a : Act} {w : World} {Q : Exit → Act → World → Prop} {v : Value} (hgd : o.guard = none) (hr : (execOp a.eval o).run P w = .ok (.value v) w)
    (h : wpList P ops Q rest (a.put o.dst v) w) : wpList P ops Q (o :: rest) a w := wpList_plain hgd fun K hK => by
  unfold Oper.wp
  rw [hr]
  exact hK _ _ h
theorem below_undrew {B : Nat} {w W : World} (h : Below B w.drew W) : Below B w W := ⟨h.os, h.tape, h.output, h.size, h.block⟩
theorem below_drew {B : Nat} {w W : World} (h : Below B w W) : Below B w W.drew := ⟨h.os, h.tape, h.output, h.size, h.block⟩
theorem lies_one {w : World} {u : Value} {bs : List Nat} (h : Lies w u bs) : u.oneCell' = true := by obtain ⟨a, c, rfl⟩ := lies_len h; rfl
/-- what is written elsewhere leaves bytes as they are -/
theorem lies_only {S : Nat → Prop} {w w' : World} {u : Value} {bs : List Nat} (h : Lies w u bs) (ho : Only S w w') (hS : ∀ b off j x, w.cell? ⟨b, off + j, none⟩ = some (.int .u8 x) → ¬ S b) : Lies w' u bs := by
  rcases h with h | h | ⟨b, off, c, h1, h2⟩
  · exact .inl h
  · exact .inr (.inl h)
  · exact .inr (.inr ⟨b, off, c, h1, fun j hj => by
      have h3 := h2 j hj
      rw [← h3]
      exact World.cell?_of_block (w := w) (a := ⟨b, off + j, none⟩) (ho.block b (by have := cell_lt h3; exact this) (hS b off j _ h3))⟩)
/-- a struct, handed back out of a variable of its own -/
theorem results_cell {fn : Func} {p : Tmp} {ty : TypeId} (h : fn.results = #[.cell p ty]) (tmps : Array Value) (P : Program) (w : World) :
    (results fn tmps).run P w = ((asAddr (tmps.getD p undef)).run P w).andThen fun a w₁ => (loadVar ty a).run P w₁ := by
  simp only [results, h]
  simp [Sem.run_bind, Result.andThen]
/-- an operation that is wanted, by what its run gives -/
theorem wpList_runs_want {P : Program} {ops : Array Oper} {rest : List Oper} {o : Oper} {a : Act} {w w' : World} {Q : Exit → Act → World → Prop} {v : Value} (d : Option Tmp) (hd : o.dst = d) (hw : Region.wanted o (yielded ops a.tmps) = true) (hr : (execOp a.eval o).run P w = .ok (.value v) w')
    (h : wpList P ops Q rest (a.put d v) w') : wpList P ops Q (o :: rest) a w := by
  subst hd
  refine wpList_step fun K hK => ?_
  rw [if_pos hw]
  unfold Oper.wp
  rw [hr]
  exact hK _ _ h
theorem run_append_op {P : Program} {w w' : World} {o : Oper} {a : Act} (x y : Operand) (t : TypeId) (ho : o.op = .call { callee := .builtin .append, args := #[x, y], argTypes := #[t, t] }) {u v v' : Value} (hx : a.eval x = u) (hy : a.eval y = v) (hr : (Builtin.append_ #[t, t] o.type #[u, v]).run P w = .ok v' w') :
    (execOp a.eval o).run P w = .ok (.value v') w' := by
  unfold execOp
  simp only [ho, resolve, invoke, builtin, Sem.run_bind, Sem.run_pure, Result.andThen_ok, List.map_toArray, List.map_cons, List.map_nil, hx, hy, hr]
end Go.Proofs.YthbdchleppbidaaGreat
/- Structs and rows of structs, built; single steps of drawn regions; texts put together and cut: for whatever stage. -/
namespace Go.Proofs.YthbdchleppbidaaGreat
open Go.RowKit

theorem foldl_splice (off : Nat) (l cs : List Value) (h : off + l.length ≤ cs.length) : (l.toArray.zipIdx.foldl (fun (cs : Array Value) (x : Value × Nat) => cs.setIfInBounds (off + x.2) x.1) cs.toArray) = (splice cs off l).toArray := by
  obtain ⟨h1, h2⟩ := Great.foldl_set off l 0 cs.toArray
  rw [← Array.foldl_toList, Array.toList_zipIdx]
  apply Array.ext_getElem?
  intro k
  rw [h2 k, List.getElem?_toArray, List.getElem?_toArray, splice_at _ _ _ (by omega)]
  simp only [Nat.add_zero, List.size_toArray]
  by_cases hk : k < off
  · rw [if_neg (by omega), if_pos hk]
  · by_cases hk2 : k < off + l.length
    · rw [if_pos (by omega), if_neg hk, if_pos hk2]
    · rw [if_neg (by omega), if_neg hk, if_neg hk2]
theorem fill_next (place : Nat → Option (Nat × Nat)) (cells : List Value) (i off size : Nat) (v : Value) (cs : List Value) (rest : List (Nat × Value)) (hp : place i = some (off, size)) (hv : v.cells = cs.toArray) (hs : cs.length = size) (hf : off + size ≤ cells.length) :
    Instr.fill place cells.toArray ((i, v) :: rest) = Instr.fill place (splice cells off cs).toArray rest := by
  have e := foldl_splice off cs cells (by omega)
  conv => lhs; unfold Instr.fill
  simp only [hp, hv, List.size_toArray, hs]
  rw [if_neg (by simp; omega), ← e]
theorem fill_last (place : Nat → Option (Nat × Nat)) (cells : List Value) (i off size : Nat) (v : Value) (cs : List Value) (hp : place i = some (off, size)) (hv : v.cells = cs.toArray) (hs : cs.length = size) (hf : off + size ≤ cells.length) :
    Instr.fill place cells.toArray [(i, v)] = some (splice cells off cs).toArray := by rw [fill_next place cells i off size v cs [] hp hv hs hf]; rfl
/-- one element of a row, laid whole -/
theorem fill_row (z : Array Value) (n : Nat) (l : List Value) (hl : l.length = n) : Instr.fill (fun i => some (i * n, n)) ((Array.range (1 * n)).map (z[· % z.size]!)) [(0, .agg l.toArray)] = some l.toArray := by
  have h := fill_last (fun i => some (i * n, n)) ((Array.range (1 * n)).map (z[· % z.size]!)).toList 0 0 n (.agg l.toArray) l (by simp) rfl hl (by simp)
  rw [Array.toArray_toList] at h
  rw [h, splice_whole (by simp [hl])]
theorem run_built_op {P : Program} (w : World) {o : Oper} {a : Act} (t : TypeId) (parts : Array (Nat × Operand)) (ho : o.op = .build t parts) (ps : List (Nat × Value)) (hp : (parts.map fun (i, x) => (i, a.eval x)).toList = ps) (cells : Array Value) (hf : P.built t ps = some cells) :
    (execOp a.eval o).run P w = .ok (.value (.agg cells)) w := by
  subst hp
  unfold execOp
  simp only [ho, Sem.run_bind, run_build w t _ cells hf, Result.andThen_ok, Sem.run_pure]
theorem run_row_op {P : Program} (w : World) {o : Oper} {a : Act} (t e : TypeId) (parts : Array (Nat × Operand)) (ho : o.op = .buildSlice t 1 parts) (l : List Value) (n : Nat) (hp : (parts.map fun (i, x) => (i, a.eval x)).toList = [(0, .agg l.toArray)]) (ht : P.underlying t = some (.slice e)) (z : Value) (b : Nat)
    (hi : (P.info? e).map (fun i => (i.zero, i.size, i.bytes)) = some (some z, n, b)) (hl : l.length = n) (h0 : 0 < n) (hs : n ≤ 16777216) : (execOp a.eval o).run P w = .ok (.value (.slice (some ⟨w.heap.size, 0, none⟩) 1 1)) (w.alloc (.cells l.toArray e)) := by
  obtain ⟨i, hi1, hi2, hi3, _⟩ := info_parts hi
  have hf := fill_row z.cells n l hl
  unfold execOp
  simp only [ho, Sem.run_bind]
  rw [run_buildSlice w t e 1 _ l.toArray i z ht hi1 hi2 (by rw [hi3]; omega) (by rw [hi3]; omega) (by rw [hi3, hp]; exact hf)]
  simp only [Result.andThen_ok, Sem.run_pure]
theorem run_box_op {P : Program} (w : World) {o : Oper} {a : Act} (t : TypeId) (x : Operand) (ho : o.op = .box t x) (cs : Array Value) (hx : a.eval x = .agg cs) : (execOp a.eval o).run P w = .ok (.value (.pointer (some ⟨w.heap.size, 0, none⟩))) (w.alloc (.cells cs t)) := by
  unfold execOp
  simp only [ho, hx, Sem.run_bind, Instr.box, newVar, newRow, run_newObj_alloc, Sem.run_pure, Result.andThen_ok]
  rfl
theorem rep_get {v : Value} {N m : Nat} (h : m < N) : (List.replicate N v).toArray[m]! = v := by
  rw [getElem!_pos _ _ (by simpa using h)]; simp
theorem made_rep {v : Value} {N k : Nat} (hN : 0 < N) : (madeCells (List.replicate N v).toArray k).toList = List.replicate k v := by
  unfold madeCells
  rw [Array.toList_map, Array.toList_range]
  refine List.ext_getElem (by simp) fun i h1 h2 => ?_
  rw [List.getElem_map, List.getElem_replicate]
  exact rep_get (Nat.lt_of_lt_of_le (Nat.mod_lt _ (by simpa using hN)) (by simp))
/-- a cell, loaded, in a region -/
theorem run_load_one {P : Program} (w : World) {o : Oper} {a : Act} (ty : TypeId) (x : Operand) (ho : o.op = .load ty x) (p : Addr) (hx : a.eval x = .pointer (some p)) (v : Value) (d : TypeDesc) (hc : w.cell? p = some v)
    (hu : P.underlying ty = some d) (hd : (match d with | .struct _ | .array _ _ => true | _ => false) = false) : (execOp a.eval o).run P w = .ok (.value v) w := by
  have hagg : (isAgg ty).run P w = .ok false w := by
    unfold isAgg
    rw [Sem.run_bind, run_underlying hu w]
    cases d <;> simp_all
  unfold execOp
  simp [ho, hx, Instr.loadAt, Instr.sureAddr, loadVar, Sem.run_bind, hagg, hc]
/-- by what its run gives, its slot written out -/
theorem step_runs {P : Program} {ops : Array Oper} {o : Oper} {a : Act} {w w' : World} {K : Act → World → Prop} {Q : Exit → Act → World → Prop} {E : Prop} {v : Value} (d : Option Tmp) (hgd : o.guard = none) (hd : o.dst = d) (hr : (execOp a.eval o).run P w = .ok (.value v) w')
    (h : K (a.put d v) w') : if Region.wanted o (yielded ops a.tmps) = true then Oper.wp P o a w K Q else E := by
  subst hd
  exact step_run hgd hr h
/-- a[:n] of an array at a place -/
theorem run_upto {P : Program} (w : World) {o : Oper} {a : Act} (t : TypeId) (x y : Operand) (ho : o.op = .slice t x none (some y) none) (e : TypeId) (N : Nat) (ht : P.underlying t = some (.array N e)) (hs : (P.info? e).map (·.size) = some 1) (g off n : Nat) (k : IntKind)
    (hx : a.eval x = .pointer (some ⟨g, off, none⟩)) (hy : a.eval y = .int k (n : Int)) (hn : n ≤ N) (hN : N ≠ 0) : (execOp a.eval o).run P w = .ok (.value (.slice (some ⟨g, off, none⟩) n N)) w := by
  cases hq : P.info? e with
  | none => simp [hq] at hs
  | some ii =>
    have hss : ii.size = 1 := by simpa [hq] using hs
    have hsz : (sizeOf e).run P w = .ok 1 w := by simp [sizeOf, typeInfo, hq, hss]
    have hb : (Instr.sliceBounds false N N none (some (.int k (n : Int))) none).run P w = .ok (0, n, N) w := by
      simp [Instr.sliceBounds, Instr.sliceBound, asIntOf, hn]
    unfold execOp
    simp only [ho, hx, hy, Option.map_some, Option.map_none, Instr.sliceAt, Instr.sureAddr, Sem.run_bind, run_underlying ht, Result.andThen_ok, hb, hsz, Sem.run_pure]
    congr 4
    rw [if_neg (by omega), add_at, Nat.zero_mul, Nat.add_zero]
theorem splice_one {α : Type} (l : List α) (i : Nat) (u : α) (h : i < l.length) : splice l i [u] = l.set i u := by
  unfold splice
  rw [List.set_eq_take_append_cons_drop, if_pos h]; rfl
/-- a cell, stored, in a region -/
theorem step_store_one {P : Program} {ops : Array Oper} {o : Oper} {a : Act} {w : World} {K : Act → World → Prop} {Q : Exit → Act → World → Prop} {E : Prop} (hgd : o.guard = none) (hd : o.dst = none) (ty : TypeId) (x y : Operand) (ho : o.op = .store ty x y)
    (g off : Nat) (u : Value) (hx : a.eval x = .pointer (some ⟨g, off, none⟩)) (hy : a.eval y = u) (hu : u.cells = #[u]) (h1 : u.oneCell' = true) (t : TypeId) (cur : List Value) (hg : Arr w g t cur) (hi : (P.info? ty).map (·.size) = some 1) (hoff : off < cur.length)
    (h : K a (w.setRow g (cur.set off u).toArray)) : if Region.wanted o (yielded ops a.tmps) = true then Oper.wp P o a w K Q else E := by
  have hc := run_storeCells_part (P := P) g off t [u] 0 cur w hg (by simp; omega) (fun v hv => by rw [List.mem_singleton.1 hv]; exact h1)
  rw [Nat.add_zero, splice_one _ _ _ hoff] at hc
  have hrun : (storeVar ty ⟨g, off, none⟩ u).run P w = .ok () (w.setRow g (cur.set off u).toArray) := by
    cases hq : P.info? ty with
    | none => simp [hq] at hi
    | some i =>
      have hs : 1 = i.size := by simp [hq] at hi; omega
      simp [storeVar, sizeOf, typeInfo, hq, hu, ← hs, hc]
  rw [if_pos (by simp [Region.wanted, hgd])]
  unfold Oper.wp execOp
  simp only [ho, hx, hy, Instr.storeAt, Instr.sureAddr, Sem.run_bind, Sem.run_pure, Result.andThen_ok, hrun]
  show K (a.put o.dst undef) _
  rw [hd]
  exact h
theorem run_conv_op {P : Program} {w W : World} {o : Oper} {a : Act} (s d : TypeId) (x : Operand) (ho : o.op = .convert s d x) (u v : Value) (hx : a.eval x = u) (hr : (convert s d u).run P w = .ok v W) : (execOp a.eval o).run P w = .ok (.value v) W := by
  unfold execOp
  simp only [ho, hx, Sem.run_bind, Sem.run_pure, Result.andThen_ok, hr]
theorem run_cat_op (w : World) {o : Oper} {a : Act} (x y : Operand) (ho : o.op = .binOp .add 9 x y 9) (s t R : ByteArray) (hx : a.eval x = .string s) (hy : a.eval y = .string t) (hR : s ++ t = R) (hs : R.size ≤ 100000000) :
    (execOp a.eval o).run Tryz.prog w = .ok (.value (.string R)) w := by
  have h1 : s.size + t.size ≤ 9223372036854775807 := by rw [← hR, ByteArray.size_append] at hs; omega
  unfold execOp
  simp [ho, hx, hy, eqGuard, binOp_string_add, run_string_add_sum (P := Tryz.prog) (w := w) s t h1, hR]
theorem run_text_hi (w : World) {o : Oper} {a : Act} (x y : Operand) (ho : o.op = .slice 9 x none (some y) none) (s R : ByteArray) (h : Nat) (hx : a.eval x = .string s) (hy : a.eval y = .int .i64 (h : Int)) (hh : h ≤ s.size) (hR : s.extract 0 h = R) :
    (execOp a.eval o).run Tryz.prog w = .ok (.value (.string R)) w := by
  have hb : (Instr.sliceBounds false s.size s.size none (some (.int .i64 (h : Int))) none).run Tryz.prog w = .ok (0, h, s.size) w := by simp [Instr.sliceBounds, Instr.sliceBound, asIntOf, hh]
  have hr : (Instr.sliceAt 9 (.string s) none (some (.int .i64 (h : Int))) none).run Tryz.prog w = .ok (.string R) w := by
    simp [Instr.sliceAt, Instr.slice, Sem.run_bind, run_underlying Tryz.underlying9, hb, hR]
  unfold execOp
  simp only [ho, hx, hy, Option.map_some, Option.map_none, Sem.run_bind, hr, Result.andThen_ok, Sem.run_pure]
theorem run_text_lo (w : World) {o : Oper} {a : Act} (x y : Operand) (ho : o.op = .slice 9 x (some y) none none) (s R : ByteArray) (l : Nat) (hx : a.eval x = .string s) (hy : a.eval y = .int .i64 (l : Int)) (hl : l ≤ s.size) (hR : s.extract l s.size = R) :
    (execOp a.eval o).run Tryz.prog w = .ok (.value (.string R)) w := by
  have hb : (Instr.sliceBounds false s.size s.size (some (.int .i64 (l : Int))) none none).run Tryz.prog w = .ok (l, s.size, s.size) w := by simp [Instr.sliceBounds, Instr.sliceBound, asIntOf, hl]
  have hr : (Instr.sliceAt 9 (.string s) (some (.int .i64 (l : Int))) none none).run Tryz.prog w = .ok (.string R) w := by
    simp [Instr.sliceAt, Instr.slice, Sem.run_bind, run_underlying Tryz.underlying9, hb, hR]
  unfold execOp
  simp only [ho, hx, hy, Option.map_some, Option.map_none, Sem.run_bind, hr, Result.andThen_ok, Sem.run_pure]
theorem strOf_extract (l : List Nat) (lo hi : Nat) : (strOf l).extract lo hi = strOf ((l.drop lo).take (hi - lo)) := by
  apply ByteArray.ext
  rw [ByteArray.data_extract]
  apply Array.ext'
  rw [Array.toList_extract, List.extract_eq_take_drop]
  simp [strOf, List.map_take, List.map_drop]
/-- a new variable in a region, its noughts said -/
theorem run_alloc_op {P : Program} (w : World) {o : Oper} {a : Act} (t : TypeId) (ho : o.op = .alloc t) (z : List Value) (hz : ((P.info? t).bind (·.zero)).map (·.cells) = some z.toArray) :
    (execOp a.eval o).run P w = .ok (.value (.pointer (some ⟨w.heap.size, 0, none⟩))) (w.alloc (.cells z.toArray t)) := by
  cases hi : P.info? t with
  | none => simp [hi] at hz
  | some i =>
    cases hzz : i.zero with
    | none => simp [hi, hzz] at hz
    | some v =>
      have hv : v.cells = z.toArray := by simpa [hi, hzz] using hz
      have hzv : (zeroValue t).run P w = .ok v w := by simp [zeroValue, typeInfo, hi, hzz]
      unfold execOp
      simp only [ho, Instr.alloc, newVar, newRow, Sem.run_bind, hzv, run_newObj_alloc, Sem.run_pure, Result.andThen_ok, hv]
/-- an array's value of structs, indexed -/
theorem run_index_agg {P : Program} (w : World) (t e : TypeId) (n sz : Nat) (cs u : Array Value) (k : IntKind) (i : Nat) (ht : P.underlying t = some (.array n e)) (d : TypeDesc) (he : P.underlying e = some d)
    (hd : (match d with | .struct _ | .array _ _ => true | _ => false) = true) (hs : (P.info? e).map (·.size) = some sz) (hi : i < n) (hu : cs.extract (i * sz) (i * sz + sz) = u) :
    (Instr.index t (.agg cs) (.int k (i : Int))).run P w = .ok (.agg u) w := by
  cases hq : P.info? e with
  | none => simp [hq] at hs
  | some ii =>
    have hss : ii.size = sz := by simpa [hq] using hs
    have hagg : (isAgg e).run P w = .ok true w := by
      unfold isAgg
      rw [Sem.run_bind, run_underlying he w]
      cases d <;> simp_all
    simp [Instr.index, asIntOf, Sem.run_bind, run_underlying ht w, hi, sizeOf, typeInfo, hq, hss, part, hagg, hu]
theorem anyH_name {P : Program} {ops : Array Oper} {Q : Exit → Act → World → Prop} {md : Region.Mode} {S : World → Prop} {fuel : Nat} {listed : Array Bool} {a : Act} {w : World} (h : ∀ W, Hid (W = w) → wpAnyH P md ops Q S fuel listed a W) : wpAnyH P md ops Q S fuel listed a w := h w rfl
theorem wp_name {P : Program} {c : Code} {a : Act} {w : World} {Q : Exit → Act → World → Prop} (h : ∀ W, Hid (W = w) → c.wp P Q a W) : c.wp P Q a w := h w rfl
end Go.Proofs.YthbdchleppbidaaGreat
/- copy and clear over rows of structs: elements of k cells. No function of the program. -/
namespace Go.Proofs.YthbdchleppbidaaGreat
open Go.RowKit

/-- copy between two places, elements of k cells; the target in a row that is known whole -/
theorem run_copy_K {P : Program} (w : World) (dT sT ty elem : TypeId) (k g off dLen dCap : Nat) (ad : Addr) (sLen sCap : Nat) (cur : List Value) (t : TypeId) (cs : List Value)
    (hu : P.underlying dT = some (.slice elem)) (hs : (P.info? elem).map (·.size) = some k) (hg : Arr w g t cur) (hn : cs.length = Nat.min sLen dLen * k)
    (hsrc : ∀ j v, cs[j]? = some v → w.cell? (ad.add j) = some v) (hfit : off + cs.length ≤ cur.length) (h1 : ∀ v ∈ cs, v.oneCell' = true) :
    (Builtin.copy_ #[dT, sT] ty #[.slice (some ⟨g, off, none⟩) dLen dCap, .slice (some ad) sLen sCap]).run P w = .ok (goInt (Nat.min sLen dLen)) (w.setRow g (splice cur off cs).toArray) := by
  have hst := run_storeCells_part (P := P) g off t cs 0 cur w hg (by omega) h1
  rw [Nat.add_zero] at hst
  cases hq : P.info? elem with
  | none => simp [hq] at hs
  | some i =>
    have hi : i.size = k := by simpa [hq] using hs
    have hf := run_firstCells_some (P := P) w k (Nat.min sLen dLen) ad sLen sCap cs hn hsrc
    simp [Builtin.copy_, run_underlying hu, Builtin.lenOf, sizeOf, typeInfo, hq, hi, hf, hst]
theorem wpList_copy_K {P : Program} {w : World} {ops : Array Oper} {rest : List Oper} {o : Oper} {a : Act} {Q : Exit → Act → World → Prop} (hgd : o.guard = none) (d s : Operand) (dT sT : TypeId)
    (ho : o.op = .call { callee := .builtin .copy, args := #[d, s], argTypes := #[dT, sT] }) (elem : TypeId) (k : Nat) (hu : P.underlying dT = some (.slice elem)) (hsz : (P.info? elem).map (·.size) = some k)
    (g off dLen dCap : Nat) (ad : Addr) (sLen sCap : Nat) (hd : a.eval d = .slice (some ⟨g, off, none⟩) dLen dCap) (hs : a.eval s = .slice (some ad) sLen sCap)
    (cur : List Value) (t : TypeId) (hg : Arr w g t cur) (cs : List Value) (hn : cs.length = Nat.min sLen dLen * k)
    (hsrc : ∀ j v, cs[j]? = some v → w.cell? (ad.add j) = some v) (hfit : off + cs.length ≤ cur.length) (h1 : ∀ v ∈ cs, v.oneCell' = true)
    (h : ∀ W, Hid (Arr W g t (splice cur off cs)) → Hid (Only (fun k => k = g) w W) → wpList P ops Q rest (a.put o.dst (goInt (Nat.min sLen dLen))) W) : wpList P ops Q (o :: rest) a w := by
  refine wpList_plain hgd fun K hK => ?_
  have hrun := run_copy_K (P := P) w dT sT o.type elem k g off dLen dCap ad sLen sCap cur t cs hu hsz hg hn hsrc hfit h1
  unfold Oper.wp
  simp [execOp, ho, resolve, invoke, builtin, hd, hs, hrun, Result.andThen]
  exact hK _ _ (h _ (setRow_heap w g _ _ t _ hg) ⟨rfl, rfl, rfl, by simp [World.setRow], fun j _ hj => setRow_other w g j _ (fun e => hj e)⟩)
theorem step_copy_K {P : Program} {ops : Array Oper} {o : Oper} {a : Act} {w : World} {K : Act → World → Prop} {Q : Exit → Act → World → Prop} {E : Prop} (hgd : o.guard = none) (d s : Operand) (dT sT : TypeId)
    (ho : o.op = .call { callee := .builtin .copy, args := #[d, s], argTypes := #[dT, sT] }) (elem : TypeId) (k : Nat) (hu : P.underlying dT = some (.slice elem)) (hsz : (P.info? elem).map (·.size) = some k)
    (g off dLen dCap : Nat) (ad : Addr) (sLen sCap : Nat) (hd : a.eval d = .slice (some ⟨g, off, none⟩) dLen dCap) (hs : a.eval s = .slice (some ad) sLen sCap)
    (cur : List Value) (t : TypeId) (hg : Arr w g t cur) (cs : List Value) (hn : cs.length = Nat.min sLen dLen * k)
    (hsrc : ∀ j v, cs[j]? = some v → w.cell? (ad.add j) = some v) (hfit : off + cs.length ≤ cur.length) (h1 : ∀ v ∈ cs, v.oneCell' = true)
    (h : ∀ W, Hid (Arr W g t (splice cur off cs)) → Hid (Only (fun k => k = g) w W) → K (a.put o.dst (goInt (Nat.min sLen dLen))) W) : if Region.wanted o (yielded ops a.tmps) = true then Oper.wp P o a w K Q else E := by
  have hw : Region.wanted o (yielded ops a.tmps) = true := by simp [Region.wanted, hgd]
  rw [if_pos hw]
  have hrun := run_copy_K (P := P) w dT sT o.type elem k g off dLen dCap ad sLen sCap cur t cs hu hsz hg hn hsrc hfit h1
  unfold Oper.wp
  simp [execOp, ho, resolve, invoke, builtin, hd, hs, hrun, Result.andThen]
  exact h _ (setRow_heap w g _ _ t _ hg) ⟨rfl, rfl, rfl, by simp [World.setRow], fun j _ hj => setRow_other w g j _ (fun e => hj e)⟩
theorem zero_len (z : Array Value) (n : Nat) : (Builtin.zeroCells z n).toList.length = n * z.size := by rw [Array.length_toList]; exact size_zeroCells z n
theorem zero_one {z : Array Value} (h : ∀ v ∈ z, v.oneCell' = true) (n : Nat) : ∀ v ∈ (Builtin.zeroCells z n).toList, v.oneCell' = true := by
  intro v hv
  rw [Array.mem_toList_iff] at hv
  unfold Builtin.zeroCells at hv
  obtain ⟨i, hi, rfl⟩ := Array.mem_map.1 hv
  have hlt : 0 < z.size := by
    rcases Nat.eq_zero_or_pos z.size with h0 | h0
    · rw [h0, Nat.mul_zero] at hi; simp at hi
    · exact h0
  rw [getElem!_pos z _ (Nat.mod_lt _ hlt)]
  exact h _ (Array.getElem_mem _)
/-- clear of a part of a row that is known whole -/
theorem run_clear_K {P : Program} (w : World) (t e ty : TypeId) (z : Value) (ht : P.underlying t = some (.slice e)) (hv : ((P.info? e).bind (·.zero)) = some z) (hz1 : ∀ v ∈ z.cells, v.oneCell' = true)
    (g off n c : Nat) (cur : List Value) (te : TypeId) (hg : Arr w g te cur) (hfit : off + n * z.cells.size ≤ cur.length) (hn : 0 < n) :
    (Builtin.clear_ #[t] ty #[.slice (some ⟨g, off, none⟩) n c]).run P w = .ok (.tuple #[]) (w.setRow g (splice cur off (Builtin.zeroCells z.cells n).toList).toArray) := by
  have hzv : (zeroValue e).run P w = .ok z w := by
    cases hi : P.info? e with
    | none => simp [hi] at hv
    | some i => simp [hi] at hv; simp [zeroValue, typeInfo, hi, hv]
  have hst := run_storeCells_part (P := P) g off te (Builtin.zeroCells z.cells n).toList 0 cur w hg (by rw [zero_len]; omega) (zero_one hz1 n)
  rw [Nat.add_zero] at hst
  obtain ⟨m, rfl⟩ : ∃ m, n = m + 1 := ⟨n - 1, by omega⟩
  simp [Builtin.clear_, run_underlying ht, hzv, hst]
theorem wpList_clear_K {P : Program} {w : World} {ops : Array Oper} {rest : List Oper} {o : Oper} {a : Act} {Q : Exit → Act → World → Prop} (hgd : o.guard = none) (s : Operand) (t : TypeId)
    (ho : o.op = .call { callee := .builtin .clear, args := #[s], argTypes := #[t] }) (e : TypeId) (z : Value) (ht : P.underlying t = some (.slice e)) (hv : ((P.info? e).bind (·.zero)) = some z) (hz1 : ∀ v ∈ z.cells, v.oneCell' = true)
    (g off n c : Nat) (hs : a.eval s = .slice (some ⟨g, off, none⟩) n c) (cur : List Value) (te : TypeId) (hg : Arr w g te cur) (hfit : off + n * z.cells.size ≤ cur.length) (hn : 0 < n)
    (h : ∀ W, Hid (Arr W g te (splice cur off (Builtin.zeroCells z.cells n).toList)) → Hid (Only (fun k => k = g) w W) → wpList P ops Q rest (a.put o.dst (.tuple #[])) W) : wpList P ops Q (o :: rest) a w := by
  refine wpList_plain hgd fun K hK => ?_
  have hrun := run_clear_K (P := P) w t e o.type z ht hv hz1 g off n c cur te hg hfit hn
  unfold Oper.wp
  simp [execOp, ho, resolve, invoke, builtin, hs, hrun, Result.andThen]
  exact hK _ _ (h _ (setRow_heap w g _ _ te _ hg) ⟨rfl, rfl, rfl, by simp [World.setRow], fun j _ hj => setRow_other w g j _ (fun e => hj e)⟩)
/-- append inside a row that is known whole, in a region that draws its order -/
theorem step_append_in {P : Program} {ops : Array Oper} {o : Oper} {a : Act} {w : World} {K : Act → World → Prop} {Q : Exit → Act → World → Prop} {E : Prop} (hgd : o.guard = none) (s x : Operand) (t : TypeId)
    (ho : o.op = .call { callee := .builtin .append, args := #[s, x], argTypes := #[t, t] }) (e : TypeId) (i : TypeInfo) (size : Nat) (ht : P.underlying t = some (.slice e)) (hi : P.info? e = some i) (hsize : i.size = size)
    (g sLen sCap : Nat) (cur : List Value) (hg : Arr w g e cur) (hs : a.eval s = .slice (some ⟨g, 0, none⟩) sLen sCap) (ad : Addr) (m c : Nat) (hx : a.eval x = .slice (some ad) m c)
    (news : List Value) (hl : news.length = m * size) (hnews : ∀ j u, news[j]? = some u → w.cell? (ad.add j) = some u) (h1 : ∀ u ∈ news, u.oneCell' = true)
    (hroom : sLen + m ≤ sCap) (hfit : sLen * size + news.length ≤ cur.length)
    (h : ∀ W, Hid (Arr W g e (splice cur (sLen * size) news)) → Hid (Only (fun k => k = g) w W) → K (a.put o.dst (.slice (some ⟨g, 0, none⟩) (sLen + m) sCap)) W) : if Region.wanted o (yielded ops a.tmps) = true then Oper.wp P o a w K Q else E := by
  have hw : Region.wanted o (yielded ops a.tmps) = true := by simp [Region.wanted, hgd]
  rw [if_pos hw]
  subst hsize
  have hrun := run_append_room (P := P) w t o.type e i ht hi g sLen sCap cur.toArray hg ad m c news hl hnews h1 hroom (by simpa using hfit)
  have e1 : (cur.toArray.toList.take (sLen * i.size) ++ news ++ cur.toArray.toList.drop (sLen * i.size + news.length)) = splice cur (sLen * i.size) news := by simp [splice]
  rw [e1] at hrun
  unfold Oper.wp
  simp [execOp, ho, resolve, invoke, builtin, hs, hx, hrun, Result.andThen]
  exact h _ (setRow_heap w g _ _ e _ hg) ⟨rfl, rfl, rfl, by simp [World.setRow], fun j _ hj => setRow_other w g j _ (fun e => hj e)⟩

/-- append(s, make(..)...) where s has no room -/
theorem wpList_append_zeros {P : Program} {w : World} {ops : Array Oper} {rest : List Oper} {o : Oper} {a : Act} {Q : Exit → Act → World → Prop} (hgd : o.guard = none) (s x : Operand) (t tn : TypeId)
    (ho : o.op = .call { callee := .builtin .append, args := #[s, x], argTypes := #[t, tn] }) (e : TypeId) (i : TypeInfo) (z : Value) (size bytes : Nat) (kn : IntKind) (ht : P.underlying t = some (.slice e)) (htn : P.underlying tn = some (.int kn)) (hi : P.info? e = some i) (hz : i.zero = some z)
    (hsize : i.size = size) (hby : i.bytes = bytes) (hzs : z.cells.size = size) (hsz : 0 < size) (hbb : bytes ≤ 1000)
    (g : Addr) (sLen sCap k N B : Nat) (kz : Int) (hs : a.eval s = .slice (some g) sLen sCap) (hx : a.eval x = .int .i64 kz) (hkz : kz = (k : Int)) (olds : List Value) (hl : olds.length = sLen * size) (hol : ∀ j u, olds[j]? = some u → w.cell? (g.add j) = some u)
    (h0 : 0 < k) (hg : sCap < sLen + k) (hN : sLen + k = N) (hbig : N ≤ 100000000) (hB : w.heap.size = B)
    (h : ∀ G Z W, Hid (N ≤ G ∧ G ≤ maxLen) → Hid (Z.length = (G - sLen) * size) → Hid (Arr W B e (olds ++ Z)) → Hid (Below w.heap.size w W) → wpList P ops Q rest (a.put o.dst (.slice (some ⟨B, 0, none⟩) N G)) W) : wpList P ops Q (o :: rest) a w := by
  subst hsize; subst hby; subst hkz; subst hN; subst hB
  refine wpList_plain hgd fun K hK => ?_
  have hfirst : (Builtin.firstCells i.size sLen (.slice (some g) sLen sCap)).run P w.drew = .ok olds.toArray w.drew :=
    run_firstCells_some (P := P) w.drew i.size sLen g sLen sCap olds hl hol
  have hbig2 : (sLen + k) * i.bytes ≤ 140737488355328 := by have := Nat.mul_le_mul hbig hbb; omega
  have hk2 : k * i.bytes ≤ (sLen + k) * i.bytes := Nat.mul_le_mul_right _ (by omega)
  have hrun := Lib.run_append_grow_zeros (P := P) w t tn o.type e i z .i64 kn ht htn hi hz (some g) sLen sCap olds hfirst k h0 hsz hg (by omega) (by omega) (growslice_fits hg hbig2)
  unfold Oper.wp
  simp [execOp, ho, resolve, invoke, builtin, hs, hx, hrun, Result.andThen]
  have hge := grownCap_ge w (sLen + k) sCap e
  refine hK _ _ (h (grownCap w (sLen + k) sCap e) (Builtin.zeroCells z.cells k ++ Builtin.zeroCells z.cells (grownCap w (sLen + k) sCap e - (sLen + k))).toList _ ⟨hge, grownCap_le_maxLen w _ _ e (by unfold maxLen; omega)⟩ ?_ ?_ (show Below _ _ _ from ((Below.refl w.heap.size w).drew).alloc (Nat.le_refl _) _))
  · show _ = _
    rw [Array.toList_append, List.length_append, zero_len, zero_len, hzs, ← Nat.add_mul]
    congr 1; omega
  · show _ = _
    rw [show w.heap.size = w.drew.heap.size from rfl, heap_alloc_new]
    congr 2
    apply Array.ext'
    simp
/-! ### What such rows hold -/
theorem take_app {α : Type} (A B : List α) : (A ++ B).take A.length = A := by simp
theorem drop_app {α : Type} (A B : List α) (k : Nat) : (A ++ B).drop (A.length + k) = B.drop k := by rw [List.drop_append]; simp
theorem splice_in {α : Type} (A X R c : List α) (h : X.length = c.length) : splice (A ++ (X ++ R)) A.length c = A ++ (c ++ R) := by
  unfold splice
  rw [take_app, drop_app, ← h, List.drop_left]
/-- what stands from a place on, shifted by c's length, and c laid there -/
theorem shift_row {α : Type} (A D R c : List α) (hR : c.length ≤ R.length) : splice (splice (A ++ (D ++ R)) (A.length + c.length) D) A.length c = A ++ (c ++ (D ++ R.drop c.length)) := by
  have e1 : splice (A ++ (D ++ R)) (A.length + c.length) D = A ++ ((D ++ R).take c.length ++ (D ++ R.drop c.length)) := by
    unfold splice
    rw [List.take_append, List.take_of_length_le (by omega), show A.length + c.length - A.length = c.length by omega, show A.length + c.length + D.length = A.length + (D.length + c.length) by omega, drop_app, drop_app, List.append_assoc]
  rw [e1, splice_in]
  rw [List.length_take, List.length_append]; omega
/-- c, and D behind it, laid behind A -/
theorem grow_row {α : Type} (A D Z c : List α) : splice (splice (A ++ Z) A.length c) (A.length + c.length) D = A ++ (c ++ (D ++ Z.drop (c.length + D.length))) := by
  have e1 : splice (A ++ Z) A.length c = (A ++ c) ++ Z.drop c.length := by
    unfold splice
    rw [take_app, drop_app, List.append_assoc]
  rw [e1, ← List.length_append]
  unfold splice
  rw [take_app, drop_app, List.drop_drop, List.append_assoc]
/-- what stands from one place on laid over from a lesser one on -/
theorem pull_row {α : Type} (A X D R : List α) : splice (A ++ (X ++ (D ++ R))) A.length D = A ++ (D ++ (A ++ (X ++ (D ++ R))).drop (A.length + D.length)) := by
  unfold splice
  rw [take_app]
end Go.Proofs.YthbdchleppbidaaGreat
