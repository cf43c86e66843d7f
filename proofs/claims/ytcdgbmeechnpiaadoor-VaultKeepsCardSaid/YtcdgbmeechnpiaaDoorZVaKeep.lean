/- What VaultKeeps' walk needs: rows of changes beside a vault; images made; a device armed, or crashed, between the calls. -/
import Derived.Test.YtcdgbmeechnpiaaDoorMW
import Derived.Test.YtcdgbmeechnpiaaDoorMX
import Derived.Lib.SliceRun
import Derived.WalkSpells
namespace Go.Proofs.YtcdgbmeechnpiaaDoor
open Go.RowKit

set_option maxHeartbeats 2000000 in
theorem joleftQ {w : World} {J P frm n t k : Nat} (h : JAt w J P frm n t k) (hk : k ≤ n) (hn : n ≤ 8192) : Calls Tryd.prog 44 #[.pointer (some ⟨J, 0, none⟩)] w fun e w' => e = .returned (.int .i64 ((n - k : Nat) : Int)) ∧ ∃ m, w' = w.drewN m := by
  obtain ⟨c0, c1, c2, c3, c4⟩ := h.cells
  have e1 : IntKind.i64.wrap ((n : Int) - k) = ((n - k : Nat) : Int) := by rw [IntKind.wrap_i64]; omega
  clear h
  go_enter Tryd.func44, Tryd.ntmps44
  go_wp2_with fail
  go_region
  go_wp2
  go_ret
  exact ⟨rfl, 1, rfl⟩
set_option maxHeartbeats 2000000 in
theorem varoomQ {w : World} {B V J P k N T n : Nat} {d : Dev} (h : VSit B w V J P k N T n d) (hn : n ≤ N) : Calls Tryd.prog 9 #[.pointer (some ⟨V, 0, none⟩)] w fun e w' => e = .returned (.int .i64 ((47 * (N - n) : Nat) : Int)) ∧ ∃ m, w' = w.drewN m := by
  obtain ⟨c0, c1, c2, c3, c4⟩ := h.va.cells
  have hN := h.small.1
  have HJ := Lib.hid (joleftQ h.jo hn (by omega))
  have e1 : IntKind.i64.wrap (((N - n : Nat) : Int) * 47) = ((47 * (N - n) : Nat) : Int) := by rw [IntKind.wrap_i64]; omega
  have HR : Hid (Calls Tryd.prog 29 #[.pointer (some ⟨J, 0, none⟩)] w fun e w' => e = .returned (.int .i64 ((47 * (N - n) : Nat) : Int)) ∧ ∃ m, w' = w.drewN m) := by
    refine Lib.hid ?_
    clear h c0 c1 c2 c3 c4
    go_enter Tryd.func29, Tryd.ntmps29
    go_wp2_with (go_at_call 44; refine (HJ.out).mono ?_; rintro e w' ⟨rfl, hb⟩; have HB := Lib.hid hb; clear hb)
    go_ret
    exact ⟨rfl, HB.out⟩
  clear h
  go_enter Tryd.func9, Tryd.ntmps9
  go_wp2_with (go_at_call 29; refine (HR.out).mono ?_; rintro e w1 ⟨rfl, hb⟩; have HB := Lib.hid hb; clear hb; dsimp only)
  go_ret
  exact ⟨rfl, HB.out⟩
/-- a vault's doings leave the changes' row -/
theorem RowsC.vk {B : Nat} {w w' : World} {v : Value} {us : List Value} {C : List (List Nat)} {V J P k N T n : Nat} {d : Dev} (h : RowsC B w v us C) (hs : VSit B w V J P k N T n d) (hk : VKept V J P w w') : RowsC B w' v us C :=
  ⟨h.rows.only hk.only (fun q hv hh => by
    rcases hh with e | e | hh
    · exact row_ne hs.va h.rows.row (by decide) (by rw [← e]; exact hv)
    · exact row_ne hs.jo h.rows.row (by decide) (by rw [← e]; exact hv)
    · exact h.dev hs.dev hv hh) (fun i u bs q hu hb hq hne hh => by
    have h1 := h.far i u bs q hu hb hq hne
    rcases hh with e | e | hh
    · have := hs.vb; omega
    · have := hs.jb; omega
    · have h2 := hs.dev.low hh; omega), h.far⟩
/-- bytes held against nil -/
theorem fresh_nil (w : World) : (Go.binOp BinOp.eql 31 (.slice none 0 0) (.slice none 0 0)).run Tryd.prog w = .ok (.bool true) w ∧ (Go.binOp BinOp.neq 31 (.slice none 0 0) (.slice none 0 0)).run Tryd.prog w = .ok (.bool false) w :=
  ⟨Lib.run_eql_slice_nil w _ _ none 0 0 0 0 Tryd.underlying31, run_neq_slice_nil_any w _ _ none 0 0 0 0 Tryd.underlying31⟩
theorem fresh_some (w : World) (p : Addr) (n c : Nat) : (Go.binOp BinOp.eql 31 (.slice (some p) n c) (.slice none 0 0)).run Tryd.prog w = .ok (.bool false) w ∧ (Go.binOp BinOp.neq 31 (.slice (some p) n c) (.slice none 0 0)).run Tryd.prog w = .ok (.bool true) w :=
  ⟨Lib.run_eql_slice_nil w _ _ (some p) n c 0 0 Tryd.underlying31, run_neq_slice_nil_any w _ _ (some p) n c 0 0 Tryd.underlying31⟩
theorem fill_one {p : Option Addr} {n c : Nat} (v z : Value) (hv : v = .slice p n c) : Instr.fill (fun i => some (i * 1, 1)) ((Array.range (1 * 1)).map (z.cells[· % z.cells.size]!)) (#[((0 : Nat), v)].toList) = some #[.slice p n c] := by
  subst hv
  have h := fill_last (fun i => some (i * 1, 1)) ((Array.range (1 * 1)).map (z.cells[· % z.cells.size]!)).toList 0 0 1 (.slice p n c) [.slice p n c] (by simp) rfl rfl (by simp)
  rw [Array.toArray_toList] at h
  show Instr.fill _ _ [(0, .slice p n c)] = _
  rw [h, splice_whole (by simp)]
/-- a row of one slice made -/
theorem run_rowS (w : World) {o : Oper} {a : Act} (x : Operand) (ho : o.op = .buildSlice 32 1 #[(0, x)]) (p : Option Addr) (n c : Nat) (hx : a.eval x = .slice p n c) : (execOp a.eval o).run Tryd.prog w = .ok (.value (.slice (some ⟨w.heap.size, 0, none⟩) 1 1)) (w.alloc (.cells #[.slice p n c] 31)) := by
  obtain ⟨i, hi1, hi2, hi3, _⟩ := info_parts infoR
  unfold execOp
  simp only [ho, Sem.run_bind]
  rw [run_buildSlice w 32 31 1 _ #[.slice p n c] i _ Tryd.underlying32 hi1 hi2 (by rw [hi3]; omega) (by rw [hi3]; omega) (by rw [hi3]; exact (congrArg (Instr.fill _ _) (show ((#[((0 : Nat), x)] : Array (Nat × Operand)).map fun y => (y.1, a.eval y.2)).toList = #[((0 : Nat), a.eval x)].toList from by simp)).trans (fill_one (a.eval x) (.slice none 0 0) hx))]
  simp only [Result.andThen_ok, Sem.run_pure]
/-- a row of one slice that came in -/
theorem rows_one {B : Nat} {w : World} {u : Value} {bs : List Nat} (hB : B ≤ w.heap.size) (hl : Lies w u bs) (hf : ∀ q, u.ownBlock = some q → bs ≠ [] → q < B) : RowsC B (w.alloc (.cells #[u] 31)) (.slice (some ⟨w.heap.size, 0, none⟩) 1 1) [u] [bs] := by
  have hb : Below w.heap.size w (w.alloc (.cells #[u] 31)) := (Below.refl _ _).alloc (Nat.le_refl _) _
  refine ⟨⟨⟨rfl, .inr ⟨w.heap.size, 1, #[u], rfl, hB, heap_alloc_new w _, Nat.le_refl _, by decide, rfl, rfl⟩⟩, rfl, fun i x cs hx hc => ?_⟩, fun i x cs q hx hc hq hne => ?_⟩
  · match i with
    | 0 =>
      cases hx; cases hc
      refine ⟨lies_keep hl hb, fun q hq hne e => ?_⟩
      have e : w.heap.size = q := by injection e
      have := hf _ hq hne
      omega
    | i + 1 => simp at hx
  · match i with
    | 0 => cases hx; cases hc; exact hf q hq hne
    | i + 1 => simp at hx
theorem own_one (w : World) (x : Nat) : (w.alloc (.cells #[.int .u8 (x : Int)] 5)).ownsRow w.heap.size 5 1 (.slice (some ⟨w.heap.size, 0, none⟩) 1 1) 1 (u8s [x]) :=
  ⟨rfl, .inr ⟨w.heap.size, 1, #[.int .u8 (x : Int)], rfl, Nat.le_refl _, heap_alloc_new w _, Nat.le_refl _, by decide, rfl, rfl⟩⟩
theorem own_some {w : World} {B n : Nat} {e : TypeId} {v : Value} {xs : List Value} (h : w.ownsRow B e 1 v n xs) (hn : 0 < n) : ∃ g cap, v = .slice (some ⟨g, 0, none⟩) n cap := by
  rcases h.2 with ⟨_, h0⟩ | ⟨g, cap, cur, hv, _⟩
  · omega
  · exact ⟨g, cap, hv⟩
/-- a new image, behind its sealing -/
theorem img_after {w w' : World} {X J' P m : Nat} {v : Value} {bs : List Nat} (hl : LiesFrom m w v bs) (hD : ∀ q, DBlk w P q → q < m) (hX : X < m) (hk : JKept X P w w') (hJ : w.heap.size ≤ J') : ImgAt w' X J' P v bs := by
  have h1 : ImgAt w X w.heap.size P v bs := ⟨hl.lies, fun q hq hne => by
    have h2 := hl.block hq hne
    exact ⟨fun hh => by have := hD q hh; omega, by omega, by omega⟩⟩
  have h2 := h1.kept hk.vault
  exact ⟨h2.lies, fun q hq hne => ⟨(h2.far q hq hne).1, (h2.far q hq hne).2.1, by have := (hl.block hq hne).2; omega⟩⟩
section
variable {B : Nat} {w : World} {V J P k N t : Nat} {R : List (List Nat)} {d : Dev}
theorem VSit.dev' {w' : World} {n : Nat} {d' : Dev} (h : VSit B w V J P k N t n d) (hk : Kept P w w') (hd : DevAt w' B P d') (hl : d'.lies.length = d.lies.length) : VSit B w' V J P k N t n d' :=
  ⟨hd, h.va.only hk.only h.vn, h.jo.only hk.only h.jn, hk.notD h.va.lt h.vn, hk.notD (Arr.lt h.jo) h.jn, h.vj, h.vb, h.jb, h.half, by rw [hl]; exact h.len, h.pos, h.turn⟩
/-- armed -/
theorem vau_arm {z : Nat} {keep : Nat} {torn bytes : Int} (h : Vau B w V J P k N t R d) (hz : 1 ≤ z ∧ z ≤ 60) (hk : keep < 18446744073709551616) :
    Calls Tryd.prog 12 #[.pointer (some ⟨P, 0, none⟩), .int .i64 (z : Int), .int .u64 (keep : Int), .int .i64 torn, .int .i64 bytes] w fun e w' => e = .returned (.tuple #[]) ∧ Kept P w w' ∧ ∃ d', Vau B w' V J P k N t R d' := by
  refine (arm_any (z := (z : Int)) (keep := keep) (torn := torn) (bytes := bytes) h.sit.dev).mono ?_
  rintro e w' ⟨rfl, hd, hkp⟩
  rw [if_neg (by omega)] at hd
  exact ⟨rfl, hkp, _, h.sit.dev' hkp hd rfl, h.st.as (d' := { d with after := (z : Int).toNat, keep := keep, torn := torn, bytes := bytes }) rfl h.st.waits ⟨h.st.fit.up, by show (z : Int).toNat < _; omega, hk, ⟨h.st.fit.small.lies, h.st.fit.small.waits⟩, h.st.fit.few⟩⟩
/-- crashed between the calls -/
theorem vau_crash {keep : Nat} {torn bytes : Int} (h : Vau B w V J P k N t R d) (hk : keep < 18446744073709551616) :
    Calls Tryd.prog 13 #[.pointer (some ⟨P, 0, none⟩), .int .u64 (keep : Int), .int .i64 torn, .int .i64 bytes] w fun e w' => e = .returned (.tuple #[]) ∧ Kept P w w' ∧ ∃ d', DevAt w' B P d' ∧ VBroken N k t t R d'.up := by
  refine (crash_any (keep := keep) (torn := torn) (bytes := bytes) h.sit.dev hk).mono ?_
  rintro e w' ⟨rfl, hd, hkp⟩
  have e1 : (d.crash keep torn bytes).up.lies = d.lies := by
    show crashed keep torn bytes d.lies d.waits.zipIdx = _
    rw [h.st.waits]; rfl
  exact ⟨rfl, hkp, _, hd, (h.st.as e1 rfl ⟨rfl, by show 0 < _; omega, by show 0 < _; omega, (h.st.fit.small.crash _ _ _).up, Nat.zero_le _⟩).broken rfl⟩
end
end Go.Proofs.YtcdgbmeechnpiaaDoor
