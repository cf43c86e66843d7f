/- HoldPlays: all the holds, rising by names. Written by py/hold-plays.py. -/
import Derived.Test.YtphgkkdpdiiioaaHpR59
namespace Go.Proofs.Ytphgkkdpdiiioaa
open Go.RowKit Go.Shelf

attribute [local go_sem] Oper.semAt_some

set_option maxHeartbeats 16000000 in
set_option maxRecDepth 1000000 in
theorem hpAll {w W : World} {q7 q8 q10 p : Nat} {ra rb t : Int} {s : ByteArray} {b : Option Nat} {m : List Hld} {v : Value} {ds : List Deferred} {Q : Exit → Act → World → Prop} {B q26 q27 : Nat} {vx : Value} {xs : List Hld}
    (HP : Hid (PSt w q7 q8 q10 p ra rb b m m v ds W)) (HB : Hid (W.heap[B]? = some (.cells #[vx] 28 (0, 0)) ∧ HLies W vx xs ∧ xs.Perm m ∧ RisesH xs))
    (HK : Hid (∀ k, vx.ownBlock = some k → k ≠ q26 ∧ k ≠ q27 ∧ k < W.heap.size)) (HQ : Hid (w.heap.size ≤ q26 ∧ w.heap.size ≤ q27 ∧ W.heap[q26]? = some (.cells #[.string ⟨#[]⟩] 9 (0, 0)) ∧ W.heap[q27]? = some (.cells #[.int .i64 0] 3 (0, 0)))) (c0 c3 c4 c5 c6 c11 c12 c13 c14 c15 c16 c17 c18 c19 c20 c21 c22 c23 c24 c25 c28 c29 c30 c31 c32 c33 c34 c35 c36 c37 c38 c39 c40 c41 c42 c43 c44 c45 c46 c47 c48 c49 c50 c51 c52 c53 c54 c55 c56 c57 c58 c59 c60 c61 c62 c63 c64 c65 c66 c67 c68 c69 c70 c71 c72 c73 c74 c75 c76 c77 c78 c79 c80 c81 c82 c83 c84 c85 c86 c87 c88 c89 c90 c91 c92 c93 c94 c95 c96 c97 c98 c99 c100 c101 c102 c103 c104 c105 c106 c107 c108 c109 c110 c111 c112 c113 c114 c115 c116 c117 c118 c119 c120 c121 c122 c123 c124 c125 c126 c127 c128 c129 c130 c131 c132 c133 c134 c135 c136 c137 c138 c139 c140 c141 c142 c143 c144 c145 c146 c147 c148 c149 c150 c151 c152 c153 c154 c155 c156 c157 c158 c159 c160 c161 c162 c163 c164 c165 c166 c167 c168 c169 c170 c171 c172 c173 c174 c175 c176 c177 c178 c179 c180 c181 c182 c183 c184 c185 c186 c187 c188 c189 c190 c191 c192 c193 c194 c195 c196 c197 c198 c199 c200 c201 c202 c203 c204 c205 c206 c207 c208 c209 c210 c211 c212 c213 c214 c215 c216 c217 c218 c219 c220 c221 c222 c223 c224 c226 c227 c228 c229 c230 c231 c232 c233 c234 c235 c236 c237 c238 c239 c240 c241 c242 c243 c244 c245 c246 c247 c248 c249 c250 c251 c252 c253 c254 c255 : Value)
    (HN : Hid (∀ (K : Nat) (W' : World), PSt w q7 q8 q10 p ra rb b m m v (markOf K :: ds) W' ∧ W'.cell? ⟨q27, 0, none⟩ = some (.int .i64 (m.length : Int)) → Q .normal ⟨List.toArray (c0 :: .string s :: .int .i64 t :: c3 :: c4 :: c5 :: c6 :: .pointer (some ⟨q7, 0, none⟩) :: .pointer (some ⟨q8, 0, none⟩) :: .pointer (some ⟨p, 0, none⟩) :: .pointer (some ⟨q10, 0, none⟩) :: c11 :: c12 :: c13 :: c14 :: c15 :: c16 :: c17 :: c18 :: c19 :: c20 :: c21 :: c22 :: c23 :: c24 :: c25 :: .pointer (some ⟨q26, 0, none⟩) :: .pointer (some ⟨q27, 0, none⟩) :: c28 :: c29 :: c30 :: c31 :: c32 :: c33 :: c34 :: c35 :: c36 :: c37 :: c38 :: c39 :: c40 :: c41 :: c42 :: c43 :: c44 :: c45 :: c46 :: c47 :: c48 :: c49 :: c50 :: c51 :: c52 :: c53 :: c54 :: c55 :: c56 :: c57 :: c58 :: c59 :: c60 :: c61 :: c62 :: c63 :: c64 :: c65 :: c66 :: c67 :: c68 :: c69 :: c70 :: c71 :: c72 :: c73 :: c74 :: c75 :: c76 :: c77 :: c78 :: c79 :: c80 :: c81 :: c82 :: c83 :: c84 :: c85 :: c86 :: c87 :: c88 :: c89 :: c90 :: c91 :: c92 :: c93 :: c94 :: c95 :: c96 :: c97 :: c98 :: c99 :: c100 :: c101 :: c102 :: c103 :: c104 :: c105 :: c106 :: c107 :: c108 :: c109 :: c110 :: c111 :: c112 :: c113 :: c114 :: c115 :: c116 :: c117 :: c118 :: c119 :: c120 :: c121 :: c122 :: c123 :: c124 :: c125 :: c126 :: c127 :: c128 :: c129 :: c130 :: c131 :: c132 :: c133 :: c134 :: c135 :: c136 :: c137 :: c138 :: c139 :: c140 :: c141 :: c142 :: c143 :: c144 :: c145 :: c146 :: c147 :: c148 :: c149 :: c150 :: c151 :: c152 :: c153 :: c154 :: c155 :: c156 :: c157 :: c158 :: c159 :: c160 :: c161 :: c162 :: c163 :: c164 :: c165 :: c166 :: c167 :: c168 :: c169 :: c170 :: c171 :: c172 :: c173 :: c174 :: c175 :: c176 :: c177 :: c178 :: c179 :: c180 :: c181 :: c182 :: c183 :: c184 :: c185 :: c186 :: c187 :: c188 :: c189 :: c190 :: c191 :: c192 :: c193 :: c194 :: c195 :: c196 :: c197 :: c198 :: c199 :: c200 :: c201 :: c202 :: c203 :: c204 :: c205 :: c206 :: c207 :: c208 :: c209 :: c210 :: c211 :: c212 :: c213 :: c214 :: c215 :: c216 :: c217 :: c218 :: c219 :: c220 :: c221 :: c222 :: c223 :: c224 :: .func (.func 35) #[] #[.pointer (some ⟨B, 0, none⟩)] :: c226 :: c227 :: c228 :: c229 :: c230 :: c231 :: c232 :: c233 :: c234 :: c235 :: c236 :: c237 :: c238 :: c239 :: c240 :: c241 :: c242 :: c243 :: c244 :: c245 :: c246 :: c247 :: c248 :: c249 :: c250 :: c251 :: c252 :: c253 :: c254 :: c255 :: []), (markOf K :: ds)⟩ W')) : Code.wp Try.prog (hpBlk 8) Q ⟨List.toArray (c0 :: .string s :: .int .i64 t :: c3 :: c4 :: c5 :: c6 :: .pointer (some ⟨q7, 0, none⟩) :: .pointer (some ⟨q8, 0, none⟩) :: .pointer (some ⟨p, 0, none⟩) :: .pointer (some ⟨q10, 0, none⟩) :: c11 :: c12 :: c13 :: c14 :: c15 :: c16 :: c17 :: c18 :: c19 :: c20 :: c21 :: c22 :: c23 :: c24 :: c25 :: .pointer (some ⟨q26, 0, none⟩) :: .pointer (some ⟨q27, 0, none⟩) :: c28 :: c29 :: c30 :: c31 :: c32 :: c33 :: c34 :: c35 :: c36 :: c37 :: c38 :: c39 :: c40 :: c41 :: c42 :: c43 :: c44 :: c45 :: c46 :: c47 :: c48 :: c49 :: c50 :: c51 :: c52 :: c53 :: c54 :: c55 :: c56 :: c57 :: c58 :: c59 :: c60 :: c61 :: c62 :: c63 :: c64 :: c65 :: c66 :: c67 :: c68 :: c69 :: c70 :: c71 :: c72 :: c73 :: c74 :: c75 :: c76 :: c77 :: c78 :: c79 :: c80 :: c81 :: c82 :: c83 :: c84 :: c85 :: c86 :: c87 :: c88 :: c89 :: c90 :: c91 :: c92 :: c93 :: c94 :: c95 :: c96 :: c97 :: c98 :: c99 :: c100 :: c101 :: c102 :: c103 :: c104 :: c105 :: c106 :: c107 :: c108 :: c109 :: c110 :: c111 :: c112 :: c113 :: c114 :: c115 :: c116 :: c117 :: c118 :: c119 :: c120 :: c121 :: c122 :: c123 :: c124 :: c125 :: c126 :: c127 :: c128 :: c129 :: c130 :: c131 :: c132 :: c133 :: c134 :: c135 :: c136 :: c137 :: c138 :: c139 :: c140 :: c141 :: c142 :: c143 :: c144 :: c145 :: c146 :: c147 :: c148 :: c149 :: c150 :: c151 :: c152 :: c153 :: c154 :: c155 :: c156 :: c157 :: c158 :: c159 :: c160 :: c161 :: c162 :: c163 :: c164 :: c165 :: c166 :: c167 :: c168 :: c169 :: c170 :: c171 :: c172 :: c173 :: c174 :: c175 :: c176 :: c177 :: c178 :: c179 :: c180 :: c181 :: c182 :: c183 :: c184 :: c185 :: c186 :: c187 :: c188 :: c189 :: c190 :: c191 :: c192 :: c193 :: c194 :: c195 :: c196 :: c197 :: c198 :: c199 :: c200 :: c201 :: c202 :: c203 :: c204 :: c205 :: c206 :: c207 :: c208 :: c209 :: c210 :: c211 :: c212 :: c213 :: c214 :: c215 :: c216 :: c217 :: c218 :: c219 :: c220 :: c221 :: c222 :: c223 :: c224 :: .func (.func 35) #[] #[.pointer (some ⟨B, 0, none⟩)] :: c226 :: c227 :: c228 :: c229 :: c230 :: c231 :: c232 :: c233 :: c234 :: c235 :: c236 :: c237 :: c238 :: c239 :: c240 :: c241 :: c242 :: c243 :: c244 :: c245 :: c246 :: c247 :: c248 :: c249 :: c250 :: c251 :: c252 :: c253 :: c254 :: c255 :: []), ds⟩ W := by
  conv => arg 2; whnf
  have hsm : ∀ h ∈ xs, h.name.size ≤ 16 ∧ h.ser.size ≤ 16 := fun h hh => by have := HP.out.tst.tab.small h (HB.out.2.2.1.mem_iff.1 hh); exact ⟨this.1, this.2.1⟩
  have HSQ := Lib.hid (hoall_seq 3 B W vx xs (by omega) HB.out.1 HB.out.2.1 (fun k hk => (HK.out k hk).2.2) (by rw [HB.out.2.2.1.length_eq]; have := HP.out.tst.tab.few; omega) hsm)
  have h26 : q26 < W.heap.size := lt_of_block HQ.out.2.2.1
  have h27 : q27 < W.heap.size := lt_of_block HQ.out.2.2.2
  clear hsm
  go_wp2_with fail
  refine (wpIn_wide (n := 4)).1 ?_
  refine wpIn_rangeFunc_ownH (α := Fin xs.length) rfl (by omega) (gf := 35) (lb := #[.pointer (some ⟨B, 0, none⟩)]) rfl trivial (enters_of Try.func35 (by kernel_rfl) rfl)
    HSQ.out (fun h k => KeepV.trans h k) (keepV_b (fun k hk => (HK.out k hk).2.2)) (Below.refl _ _) (fun _ => rfl)
    (fun pre X => ASt W q26 q27 xs pre X) (fun _ pre _ => ¬ ∃ k, k ≤ xs.length ∧ pre = uptoN xs.length k)
    (ASt.own h26 h27) (fun _ => ownFrom_pure _ _)
    ⟨⟨_, 0, HQ.out.2.2.1, HQ.out.2.2.2, fun k hk e => by have := congrArg List.length e; rw [uptoN_length hk] at this; simp at this; subst this; exact ⟨rfl, fun _ => rfl, fun j y hj => by omega⟩⟩, Only.refl _ _⟩
    (fun x a' X => ∃ Bx, W.heap.size ≤ Bx ∧ X.heap[Bx]? = some (.cells #[.string xs[x].name, .string xs[x].ser, .int .i64 xs[x].a, .int .i64 xs[x].b] 30 (0, 0)) ∧ a' = ⟨List.toArray (c0 :: .string s :: .int .i64 t :: c3 :: c4 :: c5 :: c6 :: .pointer (some ⟨q7, 0, none⟩) :: .pointer (some ⟨q8, 0, none⟩) :: .pointer (some ⟨p, 0, none⟩) :: .pointer (some ⟨q10, 0, none⟩) :: c11 :: c12 :: c13 :: c14 :: c15 :: c16 :: c17 :: c18 :: c19 :: c20 :: c21 :: c22 :: c23 :: c24 :: c25 :: .pointer (some ⟨q26, 0, none⟩) :: .pointer (some ⟨q27, 0, none⟩) :: .pointer (some ⟨Bx, 0, none⟩) :: c29 :: c30 :: c31 :: c32 :: c33 :: c34 :: c35 :: c36 :: c37 :: c38 :: c39 :: c40 :: c41 :: c42 :: c43 :: c44 :: c45 :: c46 :: c47 :: c48 :: c49 :: c50 :: c51 :: c52 :: c53 :: c54 :: c55 :: c56 :: c57 :: c58 :: c59 :: c60 :: c61 :: c62 :: c63 :: c64 :: c65 :: c66 :: c67 :: c68 :: c69 :: c70 :: c71 :: c72 :: c73 :: c74 :: c75 :: c76 :: c77 :: c78 :: c79 :: c80 :: c81 :: c82 :: c83 :: c84 :: c85 :: c86 :: c87 :: c88 :: c89 :: c90 :: c91 :: c92 :: c93 :: c94 :: c95 :: c96 :: c97 :: c98 :: c99 :: c100 :: c101 :: c102 :: c103 :: c104 :: c105 :: c106 :: c107 :: c108 :: c109 :: c110 :: c111 :: c112 :: c113 :: c114 :: c115 :: c116 :: c117 :: c118 :: c119 :: c120 :: c121 :: c122 :: c123 :: c124 :: c125 :: c126 :: c127 :: c128 :: c129 :: c130 :: c131 :: c132 :: c133 :: c134 :: c135 :: c136 :: c137 :: c138 :: c139 :: c140 :: c141 :: c142 :: c143 :: c144 :: c145 :: c146 :: c147 :: c148 :: c149 :: c150 :: c151 :: c152 :: c153 :: c154 :: c155 :: c156 :: c157 :: c158 :: c159 :: c160 :: c161 :: c162 :: c163 :: c164 :: c165 :: c166 :: c167 :: c168 :: c169 :: c170 :: c171 :: c172 :: c173 :: c174 :: c175 :: c176 :: c177 :: c178 :: c179 :: c180 :: c181 :: c182 :: c183 :: c184 :: c185 :: c186 :: c187 :: c188 :: c189 :: c190 :: c191 :: c192 :: c193 :: c194 :: c195 :: c196 :: c197 :: c198 :: c199 :: c200 :: c201 :: c202 :: c203 :: c204 :: c205 :: c206 :: c207 :: c208 :: c209 :: c210 :: c211 :: c212 :: c213 :: c214 :: c215 :: c216 :: c217 :: c218 :: c219 :: c220 :: c221 :: c222 :: c223 :: c224 :: .func (.func 35) #[] #[.pointer (some ⟨B, 0, none⟩)] :: .agg #[.string xs[x].name, .string xs[x].ser, .int .i64 xs[x].a, .int .i64 xs[x].b] :: c227 :: c228 :: c229 :: c230 :: c231 :: c232 :: c233 :: c234 :: c235 :: c236 :: c237 :: c238 :: c239 :: c240 :: c241 :: c242 :: c243 :: c244 :: c245 :: c246 :: c247 :: c248 :: c249 :: c250 :: c251 :: c252 :: c253 :: c254 :: c255 :: []), []⟩)
    (fun x a' _ X Y row hs hg hrw => by
      obtain ⟨Bx, h1, h2, h3⟩ := hs
      refine ⟨Bx, h1, (hg.block Bx (lt_of_block h2) (fun e => ?_)).trans h2, h3⟩
      obtain ⟨-, o, ho, hc⟩ := hrw Bx e.symm
      rw [h2] at ho
      cases ho
      cases hc) ?assign ?body ?done ?stop
  case assign =>
    intro lp pre x X K hi hK
    obtain ⟨y, hy⟩ : ∃ y, y = xs[x] := ⟨_, rfl⟩
    have hy2 : xs[x] = y := hy.symm
    rw [hy2] at hK ⊢
    clear hy hy2
    obtain ⟨nm, se, xa, xb⟩ := y
    unfold Hld.val
    dsimp only at hK ⊢
    have hsz := hi.only.size
    gi_wp2
    exact hK _ _ ((KeepsOthers.alloc X _).from _) (KeepV.beyond (n := X.heap.size) (fun k hk => by have := (HK.out k hk).2.2; omega) ((Below.refl _ _).alloc (Nat.le_refl _) _)) (hi.alloc _) ⟨X.heap.size, hsz, heap_alloc_new X _, rfl⟩
  case stop =>
    intro D c pre X _ hsp hix _
    exact (hix hsp).elim
  case done =>
    rintro D ys X hD rfl hi hK
    exact HN.out D X (HP.out.afterAll HB.out.2.2.1 HQ.out.1 HQ.out.2.1 ⟨_, HQ.out.2.2.1⟩ ⟨_, HQ.out.2.2.2⟩ hi hD hK)
  case body =>
    rintro lp pre x a' X hlp hrec hi ⟨Bx, hBx, hX, rfl⟩ hlt
    obtain ⟨⟨l0, n0, e26, e27, hdet⟩, hon⟩ := hi
    have HPX := Lib.hid (HP.out.aside hon (fun k hk => by
      rcases hk with rfl | rfl
      · exact ⟨HQ.out.1, _, _, _, HQ.out.2.2.1, by decide, by decide, by decide, by decide, by decide⟩
      · exact ⟨HQ.out.2.1, _, _, _, HQ.out.2.2.2, by decide, by decide, by decide, by decide, by decide⟩))
    obtain ⟨y, hy⟩ : ∃ y, y = xs[x.val]'x.isLt := ⟨_, rfl⟩
    have hyx : xs[x.val]? = some y := by rw [hy]; exact List.getElem?_eq_getElem x.isLt
    simp only [Fin.getElem_fin, ← hy] at hX ⊢
    clear hy
    have hxm : y ∈ m := HB.out.2.2.1.mem_iff.1 (List.mem_iff_getElem?.2 ⟨_, hyx⟩)
    have hhas : hasH m y.name = true := hasH_true.2 ⟨_, hxm, rfl⟩
    obtain ⟨k, y2, hk2, hn2, hf2⟩ := findH_has hhas
    have e2y : y2 = y := HP.out.tst.tab.one (List.mem_iff_getElem?.2 ⟨k, hk2⟩) hxm hn2
    subst e2y
    have hkm := (List.getElem?_eq_some_iff.1 hk2).1
    obtain ⟨a1, b1, o1, c1, ev, ea, hcells⟩ := HPX.out.row.lies
    have ea := ea (by rintro rfl; simp at hkm)
    subst ea
    have HFD := Lib.hid (hofind_any y2.name (⟨_, b1, o1, c1, ev, fun _ => rfl, hcells⟩ : HLies X v m) (by have := HP.out.tst.tab.few; omega))
    rw [hf2] at HFD
    have w0 := hcells k _ hk2 0 _ rfl
    rw [Nat.add_zero] at w0
    have w1 := hcells k _ hk2 1 _ rfl
    have w2 := hcells k _ hk2 2 _ rfl
    have w3 := hcells k _ hk2 3 _ rfl
    have hL16 : m.length ≤ 16 := HP.out.tst.tab.few
    have HDET := Lib.hid hdet
    have HON := Lib.hid hon
    have hW := hon.size
    obtain ⟨c10, f10⟩ := HPX.out.cell
    rw [ev] at c10 HFD
    obtain ⟨g26, h26f⟩ := cells1 e26
    obtain ⟨g27, h27f⟩ := cells1 e27
    obtain ⟨g8, h8f⟩ := cells1 HPX.out.nst.res
    have XB : Arr X Bx 30 [.string y2.name, .string y2.ser, .int .i64 y2.a, .int .i64 y2.b] := hX
    have z0 := XB.cell (i := 0) rfl
    have z1 := XB.cell (i := 1) rfl
    have z2 := XB.cell (i := 2) rfl
    have z3 := XB.cell (i := 3) rfl
    have HRI : Hid (∀ j y, j + 1 = x.val → xs[j]? = some y → Op.bytesLess y.name.toList y2.name.toList = true) := Lib.hid fun j y hj hy => HB.out.2.2.2.names hy hyx (by omega)
    have HNE : Hid (1 ≤ y2.name.size) := Lib.hid (HP.out.tst.tab.small _ hxm).2.2
    have HYX := Lib.hid hyx
    have E26 := Lib.hid e26
    have E27 := Lib.hid e27
    have HPV := Lib.hid HPX.out
    clear hxm hhas hk2 hn2 hf2 hcells hdet hon e26 e27 hX XB hrec hlp hyx
    obtain ⟨nm, se, xa, xb⟩ := y2
    dsimp only at *
    have tn := text_eq nm
    have ts := text_eq se
    obtain ⟨T, hT⟩ : ∃ T, T = Op.bytesLess l0.toList nm.toList := ⟨_, rfl⟩
    replace hT := hT.symm
    gi_wp2_with fail
    refine ⟨trivial, ?_⟩
    refine (CallsIn.inRound lp (callsIn_wide.2 HFD.out)).mono ?_
    rintro e X1 ⟨rfl, hw⟩
    replace hw := hw.symm
    subst hw
    gi_wp2_with fail
    obtain ⟨A, hA⟩ : ∃ A, A = Op.bytesLess nm.toList l0.toList := ⟨_, rfl⟩
    obtain ⟨Bq, hBq⟩ : ∃ Bq, Bq = (nm.toList == l0.toList) := ⟨_, rfl⟩
    have hAB : (A || Bq) = !T := by
      rw [hA, hBq, ← hT]
      rcases cmpT_three nm l0 with ⟨h1, h2, h3, h4, _⟩ | ⟨h1, h2, h3, h4, h5⟩ | ⟨h1, h2, h3, h4, _⟩
      · have h6 : Op.bytesLess l0.toList nm.toList = false := by
          cases hc : Op.bytesLess l0.toList nm.toList with
          | false => rfl
          | true => have := cmpT_lt.2 hc; omega
        rw [h3, h6]; rfl
      · subst h5; rw [h3, h4]; rfl
      · rw [h3, h4, cmpT_lt.1 (show cmpT l0 nm < 0 by omega)]; rfl
    refine hpR59 c10 hkm hL16 w0 w1 w2 w3 z0 z1 z2 z3 g26 hA.symm hBq.symm _ _ _ _ _ _ _ _ _ _ _ _ _ _ _ _ _ _ _ _ _ _ _ _ _ _ _ _ _ _ _ _ _ _ _ _ _ _ _ _ _ _ _ _ _ _ _ _ _ _ _ _ _ _ _ _ _ _ _ _ _ _ _ _ _ _ _ _ _ _ _ _ _ _ _ _ _ _ _ _ _ _ _ _ _ _ _ _ _ _ _ _ _ _ _ _ _ _ _ _ _ _ _ _ _ _ _ _ _ _ _ _ _ _ _ _ _ _ _ _ _ _ _ _ _ _ _ _ _ _ _ _ _ _ _ _ _ _ _ _ _ _ _ _ _ _ _ _ _ _ _ _ _ _ _ _ _ _ _ _ _ _ _ _ _ _ _ _ _ _ _ _ _ _ _ _ _ _ _ _ _ _ _ _ _ _ _ _ _ _ _ _ _ _ _ _ _ _ _ _ _ _ _ _ _ _ _ _ _ _ _ _ _ _ _ _ _ _ _ _ _ _ _ _ _ _ _ _ _ _ _ _ _ _ _ _ _ _ _ _ _ _ _ _ _ _ _ _ _ _ _ _ ?_
    refine Lib.hid ?_
    intro X2 u231 u232 u233 u234 u235 u236 u237 u238 u239 u240 u241 u242 u243 u244 u245 hw
    rw [hAB]
    clear hA hBq hAB
    have HXD : Hid (ASt W q26 q27 xs pre X2) := Lib.hid (by rw [hw]; exact ⟨⟨l0, n0, E26.out, E27.out, HDET.out⟩, HON.out.trans (Only.drew (fun _ => False) _) (fun _ _ h => h.elim)⟩)
    subst hw
    have hne : ¬ q27 = q26 := fun e => by have h1 := E26.out; have h2 := E27.out; rw [e, h1] at h2; cases h2
    have hne2 : ¬ q26 = q27 := fun e => hne e.symm
    cases T with
    | false =>
      gi_wp2_with fail
      refine ⟨((KeepsOthers.setCell X _ _).trans (KeepsOthers.drew _)).from _, ?_⟩
      rintro ⟨kk, hkk, he⟩
      obtain ⟨e1, e2⟩ := uptoN_last hkk he
      obtain ⟨-, d2, d3⟩ := HDET.out x.val (by omega) e2
      have : Op.bytesLess l0.toList nm.toList = true := by
        rcases Nat.eq_zero_or_pos x.val with hz | hz
        · rw [d2 hz]; exact less_empty HNE.out
        · obtain ⟨j, hj⟩ : ∃ j, j + 1 = x.val := ⟨x.val - 1, by omega⟩
          have hjl : j < xs.length := by have := x.isLt; omega
          rw [d3 j _ hj (List.getElem?_eq_getElem hjl)]
          exact HRI.out j _ hj (List.getElem?_eq_getElem hjl)
      rw [hT] at this
      cases this
    | true =>
      gi_wp2_with fail
      have o1 : Only (fun j => j = q26) X (X.setCell ⟨q26, 0, none⟩ (.string nm)) := Only.setCell (S := fun j => j = q26) _ rfl _
      have o2 : Only (fun j => j = q27) (X.setCell ⟨q26, 0, none⟩ (.string nm)) ((X.setCell ⟨q26, 0, none⟩ (.string nm)).setCell ⟨q27, 0, none⟩ (.int .i64 (wrap64 (n0 + 1)))) := Only.setCell (S := fun j => j = q27) _ rfl _
      have e1 : (X.setCell ⟨q26, 0, none⟩ (.string nm)).heap[q26]? = some (.cells #[.string nm] 9 (0, 0)) := by rw [heap_setCell_same X q26 0 _ _ _ E26.out]; simp
      have e2 : (X.setCell ⟨q26, 0, none⟩ (.string nm)).heap[q27]? = some (.cells #[.int .i64 n0] 3 (0, 0)) := (o1.block q27 (lt_of_block E27.out) hne).trans E27.out
      have e3 : ((X.setCell ⟨q26, 0, none⟩ (.string nm)).setCell ⟨q27, 0, none⟩ (.int .i64 (wrap64 (n0 + 1)))).heap[q27]? = some (.cells #[.int .i64 (wrap64 (n0 + 1))] 3 (0, 0)) := by rw [heap_setCell_same _ q27 0 _ _ _ e2]; simp
      have e4 := (o2.block q26 (lt_of_block e1) hne2).trans e1
      have o3 : Only (fun k => k = q26 ∨ k = q27) X ((X.setCell ⟨q26, 0, none⟩ (.string nm)).setCell ⟨q27, 0, none⟩ (.int .i64 (wrap64 (n0 + 1)))).drew := ((o1.mono (fun k _ hk => .inl hk)).trans o2 (fun k _ hk => .inr hk)).trans (Only.drew (fun _ => False) _) (fun _ _ h => h.elim)
      refine ⟨(((KeepsOthers.setCell X _ _).trans (KeepsOthers.setCell _ _ _)).trans (KeepsOthers.drew _)).from _, fun j hj => ?_, ⟨⟨nm, _, e4, e3, fun kk hkk he => ?_⟩, HON.out.trans o3 (fun _ _ h => h)⟩⟩
      · have h3 := HK.out j hj
        exact o3.block j (by omega) (fun e => by rcases e with e | e <;> omega)
      · obtain ⟨f1, f2⟩ := uptoN_last hkk he
        obtain ⟨d1, -, -⟩ := HDET.out x.val (by omega) f2
        have hx16 : xs.length ≤ 16 := by rw [HB.out.2.2.1.length_eq]; exact hL16
        have hxl := x.isLt
        refine ⟨?_, fun h0 => by omega, fun j y hj hy => ?_⟩
        · rw [d1, ← f1]
          push_cast
          unfold wrap64
          omega
        · have : j = x.val := by omega
          rw [this, HYX.out] at hy
          injection hy with hy
          rw [← hy]
end Go.Proofs.Ytphgkkdpdiiioaa
