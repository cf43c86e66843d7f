/- A journal on its device, as the laws use it. -/
import Derived.Test.YtngeilhdambgfaaDoorJoWrite
import Derived.Test.YtngeilhdambgfaaDoorJoRows
namespace Go.Proofs.YtngeilhdambgfaaDoor
open Go.RowKit

/-- a journal, its device, its records -/
structure Sess (B : Nat) (w : World) (J P : Nat) (z : Bool) (t frm n : Nat) (R : List (List Nat)) (c : Nat) (d : Dev) : Prop where
  dev : DevAt w B P d
  jo : JAt w J P frm n t (usedJ R)
  jk : JKeep z t frm n R c d
  sm : SmallD d
  jn : ¬ DBlk w P J
  jb : B ≤ J
theorem secs_small {t k : Nat} {r : List Nat} (ht : t ≠ 0 ∧ t < 4294967296) (hb : ∀ x ∈ r, x < 256) (hk : k + pieces r.length ≤ 8192) : SmallL ((splitS t k r).map secB) := fun s hs => by
  obtain ⟨x, hx, rfl⟩ := List.mem_map.1 hs
  unfold splitS at hx
  obtain ⟨i, hi, rfl⟩ := List.mem_map.1 hx
  exact secB_small (pieceS_ok ht.1 ht.2 (by have := List.mem_range.1 hi; omega) hb)
theorem JKeep.waits_le {z : Bool} {t frm n c : Nat} {R : List (List Nat)} {d : Dev} (h : JKeep z t frm n R c d) (hok : d.Ok) : d.waits.length ≤ 8192 := by
  have hn := h.room hok
  have hf := h.fit
  rw [h.waits, posW_length, List.length_map, List.length_drop, usedJ_secs]
  omega
section
variable {B : Nat} {w : World} {J P : Nat} {z : Bool} {t frm n : Nat} {R : List (List Nat)} {c : Nat} {d : Dev}
/-- whatever leaves the journal and its device alone -/
theorem Sess.only {S : Nat → Prop} {w' : World} (h : Sess B w J P z t frm n R c d) (ho : Only S w w') (h1 : ¬ S J) (h2 : ∀ k, DBlk w P k → ¬ S k) : Sess B w' J P z t frm n R c d := by
  refine ⟨h.dev.only ho h2, h.jo.only ho h1, h.jk, h.sm, fun hh => h.jn ?_, h.jb⟩
  obtain ⟨g1, g2, wv, hd⟩ := h.dev
  have hP : P < w.heap.size := hd.blk.lt
  rcases hh with h3 | ⟨i, v, hi, hv, hk⟩
  · exact .inl h3
  · exact .inr ⟨i, v, hi, by rw [← hv]; exact (World.cell?_of_block (a := ⟨P, i, none⟩) (ho.block P hP (h2 P hd.isP))).symm, hk⟩
theorem Sess.on {w' : World} (h : Sess B w J P z t frm n R c d) (hb : Below w.heap.size w w') : Sess B w' J P z t frm n R c d := h.only (only_beyond (S := fun _ => False) hb) (fun e => e) (fun _ _ e => e)
theorem Sess.below {w' : World} (h : Sess B w J P z t frm n R c d) (hB : B ≤ w.heap.size) (hk : JKept J P w w') : Below B w w' := hk.only.below hB (fun k h1 => h1.elim (fun e => by rw [e]; exact h.jb) (fun h1 => h.dev.low h1))
theorem Sess.jlt (h : Sess B w J P z t frm n R c d) : J < w.heap.size := Arr.lt h.jo
theorem Sess.kept {w' : World} (h : Sess B w J P z t frm n R c d) (hk : JKept J P w w') : ¬ DBlk w' P J := fun hh => (hk.own J hh).elim h.jn (fun h1 => by have := h.jlt; omega)
theorem sess_write {v : Value} {D : List Nat} (h : Sess B w J P z t frm n R c d) (hB : B ≤ w.heap.size) (hgB : 0 < B) (hl : StepsLaid w) (hv : Lies w v D) (hD : ∀ x ∈ D, x < 256) (hf : usedJ R + pieces D.length ≤ n) :
    Calls Tryd.prog 12 #[.pointer (some ⟨J, 0, none⟩), v] w fun e w' => e = .returned (.int .i64 0) ∧ (∃ d', Sess B w' J P z t frm n (R ++ [D]) c d') ∧ JKept J P w w' := by
  have hok := h.dev.ok
  refine (jowrite_ok h.jo h.dev hB hgB h.jn hv hD h.jk.turn h.jk.range h.jk.up h.jk.calm (by have := h.jk.waits_le hok; omega) hl hf).mono ?_
  rintro e w' ⟨rfl, h1, h2, h3⟩
  refine ⟨rfl, ⟨_, h1, by rw [usedJ_append, usedJ_one]; exact h2, h.jk.write hD hf, h.sm.writes (secs_small h.jk.turn hD (by have := h.jk.room hok; omega)) _, h.kept h3, h.jb⟩, h3⟩
theorem sess_commit {v : Value} {D : List Nat} (h : Sess B w J P z t frm n R c d) (hB : B ≤ w.heap.size) (hgB : 0 < B) (hl : StepsLaid w) (hv : Lies w v D) (hD : ∀ x ∈ D, x < 256) (hf : usedJ R + pieces D.length ≤ n) :
    Calls Tryd.prog 11 #[.pointer (some ⟨J, 0, none⟩), v] w fun e w' => e = .returned (.int .i64 0) ∧ (∃ d', Sess B w' J P z t frm n (R ++ [D]) (R.length + 1) d') ∧ JKept J P w w' := by
  have hok := h.dev.ok
  refine (jocommit_ok h.jo h.dev hB hgB h.jn hv hD h.jk.turn h.jk.range h.jk.up h.jk.calm (by have := h.jk.waits_le hok; omega) hl hf).mono ?_
  rintro e w' ⟨rfl, h1, h2, h3⟩
  have hw := h.jk.write hD hf
  have hsm := h.sm.writes (secs_small (k := usedJ R) h.jk.turn hD (by have := h.jk.room hok; omega)) (frm + usedJ R)
  have hwok : (d.writes (frm + usedJ R) ((splitS t (usedJ R) D).map secB)).Ok := ⟨hok.sect, fun x hx => by
    rcases List.mem_append.1 hx with h4 | h4
    · exact hok.wait x h4
    · refine writes_wok (fun b hb => ?_) ?_ x h4
      · obtain ⟨s, hs, rfl⟩ := List.mem_map.1 hb
        unfold splitS at hs
        obtain ⟨i, hi, rfl⟩ := List.mem_map.1 hs
        rw [secB_length (pieceS_ok h.jk.turn.1 h.jk.turn.2 (by have := h.jk.room hok; have := List.mem_range.1 hi; omega) hD).2.1]; exact Nat.le_refl _
      · rw [List.length_map, splitS_length]; have := h.jk.range; show _ ≤ d.lies.length; omega, hok.pos, hok.size⟩
  have hfl := hw.flush hwok
  rw [List.length_append, List.length_singleton] at hfl
  exact ⟨rfl, ⟨_, h1, by rw [usedJ_append, usedJ_one]; exact h2, hfl, hsm.flush, h.kept h3, h.jb⟩, h3⟩
end
/-- own rows of what came in -/
structure RowsC (B : Nat) (w : World) (v : Value) (us : List Value) (R : List (List Nat)) : Prop where
  rows : RowsO B w v us R
  far : ∀ (i : Nat) (u : Value) (bs : List Nat) (k : Nat), us[i]? = some u → R[i]? = some bs → u.ownBlock = some k → bs ≠ [] → k < B
theorem RowsC.nil (B : Nat) (w : World) : RowsC B w (.slice none 0 0) [] [] := ⟨RowsO.nil B w, fun i u bs k h => by simp at h⟩
theorem RowsC.on {B : Nat} {w w' : World} {v : Value} {us : List Value} {R : List (List Nat)} (h : RowsC B w v us R) (hb : Below w.heap.size w w') : RowsC B w' v us R := ⟨h.rows.on hb, h.far⟩
theorem own_apart {w : World} {B B' : Nat} {v v' : Value} {e e' : TypeId} {s s' n n' k : Nat} {xs xs' : List Value} (h : w.ownsRow B e s v n xs) (h' : w.ownsRow B' e' s' v' n' xs') (hne : e ≠ e') (hk : v.ownBlock = some k) : v'.ownBlock ≠ some k := fun hk' => by
  rcases h.2 with ⟨hv, _⟩ | ⟨g, cap, cur, hv, _, hg, _⟩
  · rw [hv] at hk; cases hk
  · rw [hv] at hk
    cases hk
    exact row_ne hg h' hne hk'
theorem RowsC.dev {B : Nat} {w : World} {v : Value} {us : List Value} {R : List (List Nat)} {P k : Nat} {d : Dev} (h : RowsC B w v us R) (hd : DevAt w B P d) (hk : v.ownBlock = some k) : ¬ DBlk w P k := fun hh => by
  obtain ⟨g1, g2, wv, hd⟩ := hd
  rcases hd.blks hh with h1 | h1 | h1 | h1
  · subst h1; exact row_ne hd.blk h.rows.row (by decide) hk
  · subst h1; exact row_ne hd.lies h.rows.row (by decide) hk
  · subst h1; exact row_ne hd.told h.rows.row (by decide) hk
  · exact own_apart h.rows.row hd.waits (by decide) hk h1
/-- the device's doings leave it -/
theorem RowsC.kept {B : Nat} {w w' : World} {v : Value} {us : List Value} {R : List (List Nat)} {P : Nat} {d : Dev} (h : RowsC B w v us R) (hd : DevAt w B P d) (hk : Kept P w w') : RowsC B w' v us R :=
  ⟨h.rows.only hk.only (fun k hk => h.dev hd hk) (fun i u bs k hu hb hk hne hh => by have h1 := h.far i u bs k hu hb hk hne; have h2 := hd.low hh; omega), h.far⟩
theorem RowsC.sess {B : Nat} {w w' : World} {v : Value} {us : List Value} {R R' : List (List Nat)} {J P : Nat} {z : Bool} {t frm n c : Nat} {d : Dev} (h : RowsC B w v us R) (hs : Sess B w J P z t frm n R' c d) (hk : JKept J P w w') : RowsC B w' v us R :=
  ⟨h.rows.only hk.only (fun k hv hh => hh.elim (fun e => row_ne hs.jo h.rows.row (by decide) (by rw [← e]; exact hv)) (fun hh => h.dev hs.dev hv hh)) (fun i u bs k hu hb hk hne hh => by
    have h1 := h.far i u bs k hu hb hk hne
    rcases hh with e | hh
    · have := hs.jb; omega
    · have h2 := hs.dev.low hh; omega), h.far⟩
end Go.Proofs.YtngeilhdambgfaaDoor
