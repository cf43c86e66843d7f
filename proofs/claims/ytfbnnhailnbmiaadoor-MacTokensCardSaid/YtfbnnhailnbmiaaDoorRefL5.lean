/- The document's digest: its schedule's loop. -/
import Derived.Test.YtfbnnhailnbmiaaDoorRefS0
import Derived.StillTailTactics
namespace Go.Proofs.YtfbnnhailnbmiaaDoor
open Go.RowKit

theorem getD_lt {l : List Nat} (hb : ∀ x ∈ l, x < 256) (k : Nat) : l.getD k 0 < 256 := by
  simp only [List.getD]
  cases he : l[k]? with
  | none => simp
  | some x => simpa using hb x (List.mem_of_getElem? he)
theorem be_join {x0 x1 x2 x3 : Nat} (h0 : x0 < 256) (h1 : x1 < 256) (h2 : x2 < 256) (h3 : x3 < 256) : bits .or .u32 (bits .or .u32 (bits .or .u32 ((x0 : Int) * 16777216) ((x1 : Int) * 65536)) ((x2 : Int) * 256)) (x3 : Int) = ((x0 * 16777216 + x1 * 65536 + x2 * 256 + x3 : Nat) : Int) := by
  rw [show (x0 : Int) * 16777216 = ((x0 * 16777216 : Nat) : Int) by omega, show (x1 : Int) * 65536 = ((x1 * 65536 : Nat) : Int) by omega, show (x2 : Int) * 256 = ((x2 * 256 : Nat) : Int) by omega]
  rw [u32_or_nat _ _ (by omega) (by omega), nat_join 24 _ _ (by omega) (by omega), u32_or_nat _ _ (by omega) (by omega), nat_join 16 _ _ (by omega) (by omega), u32_or_nat _ _ (by omega) (by omega), nat_join 8 _ _ (by omega) (by omega)]
/-- the loops of a code, each ahead of those inside it -/
def loopsOf : Code → List Code
  | .loop c => .loop c :: loopsOf c
  | .seq a b => loopsOf a ++ loopsOf b
  | .block _ c => loopsOf c
  | .scope c => loopsOf c
  | .cond _ a b => loopsOf a ++ loopsOf b
  | _ => []
noncomputable def loop5C : Code := (loopsOf (Tryd.f15.body.getD .skip)).getD 4 .skip
set_option maxRecDepth 1000000 in
def loop5X (blk : List Nat) (P11 gm o8 n8 k8 : Nat) (c0 c1 c2 c3 c4 c5 c6 c7 c9 c10 c15 c16 c17 c18 c19 c20 c21 c22 c23 c24 c25 c26 c27 c28 c29 c30 c31 c32 c33 c34 c35 c36 c37 c38 c39 c40 c41 c42 c43 c44 c45 c46 c47 c48 c49 c50 c51 c52 c53 c54 c55 c56 c57 c58 c59 c60 c61 c62 c63 c64 c65 c66 c67 c68 c69 c70 c71 c72 c73 c74 c75 c76 c77 c78 c79 c80 c81 c82 c173 c174 c175 c176 c177 c178 c179 c180 c181 c182 c183 c184 c185 c186 c187 c188 c189 c190 c191 c192 c193 c194 c195 c196 c197 c198 c199 c200 c201 c202 c203 c204 c205 c206 c207 c208 c209 c210 c211 c212 c213 c214 c215 c216 c217 c218 c219 c220 c221 c222 c223 c224 c225 c226 c227 c228 c229 c230 c231 c232 c233 c234 c235 c236 c237 c238 c239 c240 c241 c242 c243 c244 c245 c246 c247 c248 c249 c250 c251 c252 c253 c254 c255 c256 c257 c258 c259 c260 c261 c262 c263 c264 c265 c266 c267 c268 c269 c270 c271 c272 c273 c274 c275 c276 c277 c278 c279 c280 c281 c282 c283 c284 c285 c286 c287 c288 c289 c290 c291 c292 : Value) (w : World) (a : Act) (w2 : World) : Prop :=
  ∃ u12 u13 u14 u84 u85 u86 u87 u88 u89 u90 u91 u92 u93 u94 u95 u96 u97 u98 u99 u100 u101 u102 u103 u104 u105 u106 u107 u108 u109 u110 u111 u112 u113 u114 u115 u116 u117 u118 u119 u120 u121 u122 u123 u124 u125 u126 u127 u128 u129 u130 u131 u132 u133 u134 u135 u136 u137 u138 u139 u140 u141 u142 u143 u144 u145 u146 u147 u148 u149 u150 u151 u152 u153 u154 u155 u156 u157 u158 u159 u160 u161 u162 u163 u164 u165 u166 u167 u168 u169 u170 u171 u172 : Value, (Arr w2 P11 51 (u32s (sched blk 64)) ∧ Only (fun k => k = P11) w w2) ∧ a = ⟨List.toArray (c0 :: c1 :: c2 :: c3 :: c4 :: c5 :: c6 :: c7 :: .slice (some ⟨gm, o8, none⟩) n8 k8 :: c9 :: c10 :: .pointer (some ⟨P11, 0, none⟩) :: u12 :: u13 :: u14 :: c15 :: c16 :: c17 :: c18 :: c19 :: c20 :: c21 :: c22 :: c23 :: c24 :: c25 :: c26 :: c27 :: c28 :: c29 :: c30 :: c31 :: c32 :: c33 :: c34 :: c35 :: c36 :: c37 :: c38 :: c39 :: c40 :: c41 :: c42 :: c43 :: c44 :: c45 :: c46 :: c47 :: c48 :: c49 :: c50 :: c51 :: c52 :: c53 :: c54 :: c55 :: c56 :: c57 :: c58 :: c59 :: c60 :: c61 :: c62 :: c63 :: c64 :: c65 :: c66 :: c67 :: c68 :: c69 :: c70 :: c71 :: c72 :: c73 :: c74 :: c75 :: c76 :: c77 :: c78 :: c79 :: c80 :: c81 :: c82 :: .int .i64 64 :: u84 :: u85 :: u86 :: u87 :: u88 :: u89 :: u90 :: u91 :: u92 :: u93 :: u94 :: u95 :: u96 :: u97 :: u98 :: u99 :: u100 :: u101 :: u102 :: u103 :: u104 :: u105 :: u106 :: u107 :: u108 :: u109 :: u110 :: u111 :: u112 :: u113 :: u114 :: u115 :: u116 :: u117 :: u118 :: u119 :: u120 :: u121 :: u122 :: u123 :: u124 :: u125 :: u126 :: u127 :: u128 :: u129 :: u130 :: u131 :: u132 :: u133 :: u134 :: u135 :: u136 :: u137 :: u138 :: u139 :: u140 :: u141 :: u142 :: u143 :: u144 :: u145 :: u146 :: u147 :: u148 :: u149 :: u150 :: u151 :: u152 :: u153 :: u154 :: u155 :: u156 :: u157 :: u158 :: u159 :: u160 :: u161 :: u162 :: u163 :: u164 :: u165 :: u166 :: u167 :: u168 :: u169 :: u170 :: u171 :: u172 :: c173 :: c174 :: c175 :: c176 :: c177 :: c178 :: c179 :: c180 :: c181 :: c182 :: c183 :: c184 :: c185 :: c186 :: c187 :: c188 :: c189 :: c190 :: c191 :: c192 :: c193 :: c194 :: c195 :: c196 :: c197 :: c198 :: c199 :: c200 :: c201 :: c202 :: c203 :: c204 :: c205 :: c206 :: c207 :: c208 :: c209 :: c210 :: c211 :: c212 :: c213 :: c214 :: c215 :: c216 :: c217 :: c218 :: c219 :: c220 :: c221 :: c222 :: c223 :: c224 :: c225 :: c226 :: c227 :: c228 :: c229 :: c230 :: c231 :: c232 :: c233 :: c234 :: c235 :: c236 :: c237 :: c238 :: c239 :: c240 :: c241 :: c242 :: c243 :: c244 :: c245 :: c246 :: c247 :: c248 :: c249 :: c250 :: c251 :: c252 :: c253 :: c254 :: c255 :: c256 :: c257 :: c258 :: c259 :: c260 :: c261 :: c262 :: c263 :: c264 :: c265 :: c266 :: c267 :: c268 :: c269 :: c270 :: c271 :: c272 :: c273 :: c274 :: c275 :: c276 :: c277 :: c278 :: c279 :: c280 :: c281 :: c282 :: c283 :: c284 :: c285 :: c286 :: c287 :: c288 :: c289 :: c290 :: c291 :: c292 :: []), []⟩
set_option maxHeartbeats 8000000 in
set_option maxRecDepth 1000000 in
theorem loop5 {blk : List Nat} {P11 gm o8 n8 k8 : Nat} {w : World} {Q : Exit → Act → World → Prop} (hbl : blk.length = 64) (hlt : ∀ x ∈ blk, x < 256) (hn8 : 64 ≤ n8) (hcell : ∀ k, k < 64 → w.cell? ⟨gm, o8 + k, none⟩ = some (.int .u8 ((blk.getD k 0 : Nat) : Int))) (hg : gm ≠ P11) (h11 : Arr w P11 51 (u32s (fillL (sched blk 64) 64 0))) (c0 c1 c2 c3 c4 c5 c6 c7 c9 c10 c12 c13 c14 c15 c16 c17 c18 c19 c20 c21 c22 c23 c24 c25 c26 c27 c28 c29 c30 c31 c32 c33 c34 c35 c36 c37 c38 c39 c40 c41 c42 c43 c44 c45 c46 c47 c48 c49 c50 c51 c52 c53 c54 c55 c56 c57 c58 c59 c60 c61 c62 c63 c64 c65 c66 c67 c68 c69 c70 c71 c72 c73 c74 c75 c76 c77 c78 c79 c80 c81 c82 c84 c85 c86 c87 c88 c89 c90 c91 c92 c93 c94 c95 c96 c97 c98 c99 c100 c101 c102 c103 c104 c105 c106 c107 c108 c109 c110 c111 c112 c113 c114 c115 c116 c117 c118 c119 c120 c121 c122 c123 c124 c125 c126 c127 c128 c129 c130 c131 c132 c133 c134 c135 c136 c137 c138 c139 c140 c141 c142 c143 c144 c145 c146 c147 c148 c149 c150 c151 c152 c153 c154 c155 c156 c157 c158 c159 c160 c161 c162 c163 c164 c165 c166 c167 c168 c169 c170 c171 c172 c173 c174 c175 c176 c177 c178 c179 c180 c181 c182 c183 c184 c185 c186 c187 c188 c189 c190 c191 c192 c193 c194 c195 c196 c197 c198 c199 c200 c201 c202 c203 c204 c205 c206 c207 c208 c209 c210 c211 c212 c213 c214 c215 c216 c217 c218 c219 c220 c221 c222 c223 c224 c225 c226 c227 c228 c229 c230 c231 c232 c233 c234 c235 c236 c237 c238 c239 c240 c241 c242 c243 c244 c245 c246 c247 c248 c249 c250 c251 c252 c253 c254 c255 c256 c257 c258 c259 c260 c261 c262 c263 c264 c265 c266 c267 c268 c269 c270 c271 c272 c273 c274 c275 c276 c277 c278 c279 c280 c281 c282 c283 c284 c285 c286 c287 c288 c289 c290 c291 c292 : Value)
    (hexit : ∀ a' w'', loop5X blk P11 gm o8 n8 k8 c0 c1 c2 c3 c4 c5 c6 c7 c9 c10 c15 c16 c17 c18 c19 c20 c21 c22 c23 c24 c25 c26 c27 c28 c29 c30 c31 c32 c33 c34 c35 c36 c37 c38 c39 c40 c41 c42 c43 c44 c45 c46 c47 c48 c49 c50 c51 c52 c53 c54 c55 c56 c57 c58 c59 c60 c61 c62 c63 c64 c65 c66 c67 c68 c69 c70 c71 c72 c73 c74 c75 c76 c77 c78 c79 c80 c81 c82 c173 c174 c175 c176 c177 c178 c179 c180 c181 c182 c183 c184 c185 c186 c187 c188 c189 c190 c191 c192 c193 c194 c195 c196 c197 c198 c199 c200 c201 c202 c203 c204 c205 c206 c207 c208 c209 c210 c211 c212 c213 c214 c215 c216 c217 c218 c219 c220 c221 c222 c223 c224 c225 c226 c227 c228 c229 c230 c231 c232 c233 c234 c235 c236 c237 c238 c239 c240 c241 c242 c243 c244 c245 c246 c247 c248 c249 c250 c251 c252 c253 c254 c255 c256 c257 c258 c259 c260 c261 c262 c263 c264 c265 c266 c267 c268 c269 c270 c271 c272 c273 c274 c275 c276 c277 c278 c279 c280 c281 c282 c283 c284 c285 c286 c287 c288 c289 c290 c291 c292 w a' w'' → Q (.exit 8) a' w'') : Code.wp Tryd.prog loop5C Q ⟨List.toArray (c0 :: c1 :: c2 :: c3 :: c4 :: c5 :: c6 :: c7 :: .slice (some ⟨gm, o8, none⟩) n8 k8 :: c9 :: c10 :: .pointer (some ⟨P11, 0, none⟩) :: c12 :: c13 :: c14 :: c15 :: c16 :: c17 :: c18 :: c19 :: c20 :: c21 :: c22 :: c23 :: c24 :: c25 :: c26 :: c27 :: c28 :: c29 :: c30 :: c31 :: c32 :: c33 :: c34 :: c35 :: c36 :: c37 :: c38 :: c39 :: c40 :: c41 :: c42 :: c43 :: c44 :: c45 :: c46 :: c47 :: c48 :: c49 :: c50 :: c51 :: c52 :: c53 :: c54 :: c55 :: c56 :: c57 :: c58 :: c59 :: c60 :: c61 :: c62 :: c63 :: c64 :: c65 :: c66 :: c67 :: c68 :: c69 :: c70 :: c71 :: c72 :: c73 :: c74 :: c75 :: c76 :: c77 :: c78 :: c79 :: c80 :: c81 :: c82 :: .int .i64 0 :: c84 :: c85 :: c86 :: c87 :: c88 :: c89 :: c90 :: c91 :: c92 :: c93 :: c94 :: c95 :: c96 :: c97 :: c98 :: c99 :: c100 :: c101 :: c102 :: c103 :: c104 :: c105 :: c106 :: c107 :: c108 :: c109 :: c110 :: c111 :: c112 :: c113 :: c114 :: c115 :: c116 :: c117 :: c118 :: c119 :: c120 :: c121 :: c122 :: c123 :: c124 :: c125 :: c126 :: c127 :: c128 :: c129 :: c130 :: c131 :: c132 :: c133 :: c134 :: c135 :: c136 :: c137 :: c138 :: c139 :: c140 :: c141 :: c142 :: c143 :: c144 :: c145 :: c146 :: c147 :: c148 :: c149 :: c150 :: c151 :: c152 :: c153 :: c154 :: c155 :: c156 :: c157 :: c158 :: c159 :: c160 :: c161 :: c162 :: c163 :: c164 :: c165 :: c166 :: c167 :: c168 :: c169 :: c170 :: c171 :: c172 :: c173 :: c174 :: c175 :: c176 :: c177 :: c178 :: c179 :: c180 :: c181 :: c182 :: c183 :: c184 :: c185 :: c186 :: c187 :: c188 :: c189 :: c190 :: c191 :: c192 :: c193 :: c194 :: c195 :: c196 :: c197 :: c198 :: c199 :: c200 :: c201 :: c202 :: c203 :: c204 :: c205 :: c206 :: c207 :: c208 :: c209 :: c210 :: c211 :: c212 :: c213 :: c214 :: c215 :: c216 :: c217 :: c218 :: c219 :: c220 :: c221 :: c222 :: c223 :: c224 :: c225 :: c226 :: c227 :: c228 :: c229 :: c230 :: c231 :: c232 :: c233 :: c234 :: c235 :: c236 :: c237 :: c238 :: c239 :: c240 :: c241 :: c242 :: c243 :: c244 :: c245 :: c246 :: c247 :: c248 :: c249 :: c250 :: c251 :: c252 :: c253 :: c254 :: c255 :: c256 :: c257 :: c258 :: c259 :: c260 :: c261 :: c262 :: c263 :: c264 :: c265 :: c266 :: c267 :: c268 :: c269 :: c270 :: c271 :: c272 :: c273 :: c274 :: c275 :: c276 :: c277 :: c278 :: c279 :: c280 :: c281 :: c282 :: c283 :: c284 :: c285 :: c286 :: c287 :: c288 :: c289 :: c290 :: c291 :: c292 :: []), []⟩ w := by
  conv => arg 2; whnf
  go_loopw [83] (fun c wr => ∃ t : Nat, t ≤ 64 ∧ c = .int .i64 t ∧ Arr wr P11 51 (u32s (fillL (sched blk 64) 64 t)) ∧ Only (fun k => k = P11) w wr) (fun c _ => 64 - (intOf c).toNat)
  case atStart => exact ⟨0, by omega, rfl, h11, Only.refl _ _⟩
  case round =>
    obtain ⟨t, ht, rfl, h11t, ho⟩ := hrel
    have H11t := Lib.hid h11t
    have HOt := Lib.hid ho
    have q11 := h11t.free t
    have HS64 : Hid ((sched blk 64).length = 64) := Lib.hid (sched_length _ _)
    have HC := Lib.hid hcell
    have HL := Lib.hid hlt
    have H11 := Lib.hid h11
    by_cases hlt64 : t < 64
    · have HSAT := Lib.hid (sched_at blk hlt64)
      obtain ⟨o11, ho11⟩ : ∃ u, wr.cell? ⟨P11, t, none⟩ = some u := ⟨_, h11t.cell (List.getElem?_eq_getElem (by simp [u32s, fillL, HS64.out]; omega))⟩
      clear h11t ho hcell hlt h11 hexit
      by_cases h16 : t < 16
      · have t16 : decide ((t : Int) < 16) = true := by simp only [decide_eq_true_eq]; omega
        have t64 : decide ((t : Int) < 64) = true := by simp only [decide_eq_true_eq]; omega
        have hgl : ∀ k, blk.getD k 0 < 256 := fun k => getD_lt HL.out k
        obtain ⟨x0, hx0⟩ : ∃ x, x = blk.getD (4 * t) 0 := ⟨_, rfl⟩
        obtain ⟨x1, hx1⟩ : ∃ x, x = blk.getD (4 * t + 1) 0 := ⟨_, rfl⟩
        obtain ⟨x2, hx2⟩ : ∃ x, x = blk.getD (4 * t + 2) 0 := ⟨_, rfl⟩
        obtain ⟨x3, hx3⟩ : ∃ x, x = blk.getD (4 * t + 3) 0 := ⟨_, rfl⟩
        have cellw : ∀ k, k < 64 → wr.cell? ⟨gm, o8 + k, none⟩ = some (.int .u8 ((blk.getD k 0 : Nat) : Int)) := fun k hk => by
          rw [← HC.out k hk]
          exact World.cell?_of_block (w := w) (HOt.out.block gm (by have := cell_lt (HC.out 0 (by omega)); exact this) hg)
        have g0 := cellw (4 * t) (by omega)
        have g1' := cellw (4 * t + 1) (by omega)
        have g2' := cellw (4 * t + 2) (by omega)
        have g3' := cellw (4 * t + 3) (by omega)
        rw [← hx0] at g0
        rw [← hx1] at g1'
        rw [← hx2] at g2'
        rw [← hx3] at g3'
        have l0 : x0 < 256 := by rw [hx0]; exact hgl _
        have l1 : x1 < 256 := by rw [hx1]; exact hgl _
        have l2 : x2 < 256 := by rw [hx2]; exact hgl _
        have l3 : x3 < 256 := by rw [hx3]; exact hgl _
        obtain ⟨y, hy⟩ : ∃ y, y = nextW blk (sched blk t) t := ⟨_, rfl⟩
        have hnx : y = x0 * 16777216 + x1 * 65536 + x2 * 256 + x3 := by rw [hy, nextW, if_pos h16, be32, ← hx0, ← hx1, ← hx2, ← hx3]
        rw [← hy] at HSAT
        obtain ⟨j0, hj0⟩ : ∃ j, j = 4 * t := ⟨_, rfl⟩
        obtain ⟨j1, hj1⟩ : ∃ j, j = 4 * t + 1 := ⟨_, rfl⟩
        obtain ⟨j2, hj2⟩ : ∃ j, j = 4 * t + 2 := ⟨_, rfl⟩
        obtain ⟨j3, hj3⟩ : ∃ j, j = 4 * t + 3 := ⟨_, rfl⟩
        have e0 : IntKind.i64.wrap (4 * (t : Int)) = (j0 : Int) := by rw [IntKind.wrap_i64]; omega
        have e1' : IntKind.i64.wrap ((j0 : Int) + 1) = (j1 : Int) := by rw [IntKind.wrap_i64]; omega
        have e2' : IntKind.i64.wrap ((j0 : Int) + 2) = (j2 : Int) := by rw [IntKind.wrap_i64]; omega
        have e3' : IntKind.i64.wrap ((j0 : Int) + 3) = (j3 : Int) := by rw [IntKind.wrap_i64]; omega
        rw [← hj0] at g0
        rw [← hj1] at g1'
        rw [← hj2] at g2'
        rw [← hj3] at g3'
        have b0 : j0 < n8 := by omega
        have b1 : j1 < n8 := by omega
        have b2 : j2 < n8 := by omega
        have b3 : j3 < n8 := by omega
        clear hj0 hj1 hj2 hj3 hlt64 h16 ht
        have hlt64 : t < 64 := by have := t64; simp only [decide_eq_true_eq] at this; omega
        have HNX := Lib.hid hnx
        have HBL := Lib.hid hbl
        have HN8 := Lib.hid hn8
        clear hx0 hx1 hx2 hx3 hgl cellw hy hnx hbl hn8
        have hti : (t : Int) < 64 := by omega
        obtain ⟨w3, hw3⟩ : ∃ w3, w3 = wr.drew := ⟨_, rfl⟩
        have ho3' : w3.cell? ⟨P11, t, none⟩ = some o11 := by rw [hw3]; exact ho11
        have q3 : w3.frozen? ⟨P11, t, none⟩ = false := by rw [hw3]; exact q11
        have HA3 : Hid (Arr w3 P11 51 (u32s (fillL (sched blk 64) 64 t))) := Lib.hid (by rw [hw3]; exact H11t.out)
        have HO3 : Hid (Only (fun k => k = P11) w w3) := Lib.hid (by rw [hw3]; exact HOt.out.trans (Only.drew (fun _ => False) wr) (fun _ _ h => h.elim))
        go_wp2_with (go_still_tail 35, (by kernel_rfl); change wpList _ _ _ _ _ wr.drew; rw [← hw3]; clear hw3 ho11 q11 g0 g1' g2' g3')
        go_roundw
        case rel => exact ⟨t + 1, by omega, by go_num, by rw [be_join l0 l1 l2 l3, ← HNX.out, ← fill_set (by omega) HSAT.out]; exact HA3.out.set t _, HO3.out.trans (Only.setCell (S := fun k => k = P11) w3 (p := ⟨P11, t, none⟩) rfl _) (fun _ _ h => h)⟩
        case measure => simp [intOf]; omega
      · have t64 : decide ((t : Int) < 64) = true := by simp only [decide_eq_true_eq]; omega
        have t16 : decide ((t : Int) < 16) = false := by simp only [decide_eq_false_iff_not]; omega
        have hti : (t : Int) < 64 := by omega
        have HFA : Hid (∀ k x, k < t → (sched blk t)[k]? = some x → wr.cell? ⟨P11, k, none⟩ = some (.int .u32 (x : Int))) := Lib.hid fun k x hk hx => H11t.out.cell (u32s_at (fill_at hk (by rw [sched_at blk (by omega : k < 64)]; rw [sched_at blk hk] at hx; exact hx)))
        have hsl := sched_length blk t
        obtain ⟨j15, hj15⟩ : ∃ j, j = t - 15 := ⟨_, rfl⟩
        obtain ⟨j2, hj2⟩ : ∃ j, j = t - 2 := ⟨_, rfl⟩
        obtain ⟨j7, hj7⟩ : ∃ j, j = t - 7 := ⟨_, rfl⟩
        obtain ⟨j16, hj16⟩ : ∃ j, j = t - 16 := ⟨_, rfl⟩
        obtain ⟨a15, h15⟩ : ∃ x, (sched blk t)[j15]? = some x := ⟨_, List.getElem?_eq_getElem (by omega)⟩
        obtain ⟨a2, h2⟩ : ∃ x, (sched blk t)[j2]? = some x := ⟨_, List.getElem?_eq_getElem (by omega)⟩
        obtain ⟨a7, h7⟩ : ∃ x, (sched blk t)[j7]? = some x := ⟨_, List.getElem?_eq_getElem (by omega)⟩
        obtain ⟨a16, h16'⟩ : ∃ x, (sched blk t)[j16]? = some x := ⟨_, List.getElem?_eq_getElem (by omega)⟩
        have d15 := HFA.out j15 a15 (by omega) h15
        have d2 := HFA.out j2 a2 (by omega) h2
        have d7 := HFA.out j7 a7 (by omega) h7
        have d16 := HFA.out j16 a16 (by omega) h16'
        have l15 := sched_lt HL.out h15
        have l2 := sched_lt HL.out h2
        have l7 := sched_lt HL.out h7
        have l16 := sched_lt HL.out h16'
        have w15 : IntKind.i64.wrap ((t : Int) - 15) = (j15 : Int) := by rw [IntKind.wrap_i64]; omega
        have w2' : IntKind.i64.wrap ((t : Int) - 2) = (j2 : Int) := by rw [IntKind.wrap_i64]; omega
        have w7 : IntKind.i64.wrap ((t : Int) - 7) = (j7 : Int) := by rw [IntKind.wrap_i64]; omega
        have w16 : IntKind.i64.wrap ((t : Int) - 16) = (j16 : Int) := by rw [IntKind.wrap_i64]; omega
        have b15 : (j15 : Int) < 64 := by omega
        have b2 : (j2 : Int) < 64 := by omega
        have b7 : (j7 : Int) < 64 := by omega
        have b16 : (j16 : Int) < 64 := by omega
        have r7 : ∀ W, Calls Tryd.prog 27 #[.int .u32 (a15 : Int), .int .u64 7] W fun e w' => e = .returned (.int .u32 ((rotr a15 7 : Nat) : Int)) ∧ w' = W := fun W => rturn_any (k := 7) l15 (by omega) (by omega) W
        have r18 : ∀ W, Calls Tryd.prog 27 #[.int .u32 (a15 : Int), .int .u64 18] W fun e w' => e = .returned (.int .u32 ((rotr a15 18 : Nat) : Int)) ∧ w' = W := fun W => rturn_any (k := 18) l15 (by omega) (by omega) W
        have r17 : ∀ W, Calls Tryd.prog 27 #[.int .u32 (a2 : Int), .int .u64 17] W fun e w' => e = .returned (.int .u32 ((rotr a2 17 : Nat) : Int)) ∧ w' = W := fun W => rturn_any (k := 17) l2 (by omega) (by omega) W
        have r19 : ∀ W, Calls Tryd.prog 27 #[.int .u32 (a2 : Int), .int .u64 19] W fun e w' => e = .returned (.int .u32 ((rotr a2 19 : Nat) : Int)) ∧ w' = W := fun W => rturn_any (k := 19) l2 (by omega) (by omega) W
        have HR7 := Lib.hid r7
        have HR18 := Lib.hid r18
        have HR17 := Lib.hid r17
        have HR19 := Lib.hid r19
        obtain ⟨p0, hp0⟩ : ∃ p, p = rotr a15 7 ^^^ rotr a15 18 := ⟨_, rfl⟩
        obtain ⟨s0, hs0⟩ : ∃ p, p = sig0 a15 := ⟨_, rfl⟩
        obtain ⟨p1, hp1⟩ : ∃ p, p = rotr a2 17 ^^^ rotr a2 19 := ⟨_, rfl⟩
        obtain ⟨s1, hs1⟩ : ∃ p, p = sig1 a2 := ⟨_, rfl⟩
        have x0 : bits .xor .u32 ((rotr a15 7 : Nat) : Int) ((rotr a15 18 : Nat) : Int) = (p0 : Int) := by rw [u32_xor_nat _ _ (rotr_lt l15) (rotr_lt l15), hp0]
        have x1 : bits .xor .u32 (p0 : Int) ((a15 : Int) / 8) = (s0 : Int) := by
          rw [show (a15 : Int) / 8 = ((a15 / 8 : Nat) : Int) by omega, u32_xor_nat _ _ (by rw [hp0]; exact xor_lt (rotr_lt l15) (rotr_lt l15)) (by omega), hs0, hp0]; rfl
        have x2 : bits .xor .u32 ((rotr a2 17 : Nat) : Int) ((rotr a2 19 : Nat) : Int) = (p1 : Int) := by rw [u32_xor_nat _ _ (rotr_lt l2) (rotr_lt l2), hp1]
        have x3 : bits .xor .u32 (p1 : Int) ((a2 : Int) / 1024) = (s1 : Int) := by
          rw [show (a2 : Int) / 1024 = ((a2 / 1024 : Nat) : Int) by omega, u32_xor_nat _ _ (by rw [hp1]; exact xor_lt (rotr_lt l2) (rotr_lt l2)) (by omega), hs1, hp1]; rfl
        obtain ⟨q1, hq1⟩ : ∃ p, p = (s1 + a7) % 4294967296 := ⟨_, rfl⟩
        obtain ⟨q2, hq2⟩ : ∃ p, p = (q1 + s0) % 4294967296 := ⟨_, rfl⟩
        obtain ⟨y, hy⟩ : ∃ y, y = nextW blk (sched blk t) t := ⟨_, rfl⟩
        have hy2 : y = (q2 + a16) % 4294967296 := by
          rw [hy, nextW, if_neg h16, moreW, ← hj2, ← hj7, ← hj15, ← hj16]
          simp only [List.getD, h15, h2, h7, h16', Option.getD_some]
          rw [← hs1, ← hs0, hq2, hq1]; omega
        have y1 : IntKind.u32.wrap ((s1 : Int) + a7) = (q1 : Int) := by rw [IntKind.wrap_u32, hq1]; omega
        have y2 : IntKind.u32.wrap ((q1 : Int) + s0) = (q2 : Int) := by rw [IntKind.wrap_u32, hq2]; omega
        have y3 : IntKind.u32.wrap ((q2 : Int) + a16) = (y : Int) := by rw [IntKind.wrap_u32, hy2]; omega
        rw [← hy] at HSAT
        have HBL := Lib.hid hbl
        have HN8 := Lib.hid hn8
        clear hsl hj15 hj2 hj7 hj16 h15 h2 h7 h16' r7 r18 r17 r19 hp0 hs0 hp1 hs1 hq1 hq2 hy hy2 hbl hn8 l15 l2 l7 l16 hlt64 h16
        repeat (first | go_values | go_skip | go_guarded | go_step | go_upon)
        refine wp_region_still_lit (by kernel_rfl) (by kernel_rfl) ?_
        repeat still_step
        still_call (HR7.out _)
        repeat still_step
        still_call (HR18.out _)
        repeat still_step
        refine wpStill_nil ?_
        obtain ⟨V1, hwV1⟩ : ∃ W, W = wr.drew := ⟨_, rfl⟩
        have d2V1 : V1.cell? ⟨P11, j2, none⟩ = some (.int .u32 (a2 : Int)) := by rw [hwV1]; exact d2
        have d7V1 : V1.cell? ⟨P11, j7, none⟩ = some (.int .u32 (a7 : Int)) := by rw [hwV1]; exact d7
        have d16V1 : V1.cell? ⟨P11, j16, none⟩ = some (.int .u32 (a16 : Int)) := by rw [hwV1]; exact d16
        have ho11V1 : V1.cell? ⟨P11, t, none⟩ = some o11 := by rw [hwV1]; exact ho11
        change Exit.then _ _ Exit.normal _ wr.drew
        rw [← hwV1]
        have HAV1 : Hid (Arr V1 P11 51 (u32s (fillL (sched blk 64) 64 t)) ∧ Only (fun k => k = P11) w V1) := Lib.hid (by rw [hwV1]; exact ⟨H11t.out, HOt.out.trans (Only.drew (fun _ => False) wr) (fun _ _ h => h.elim)⟩)
        clear hwV1 d15 d2 d7 d16 ho11 q11
        repeat (first | go_values | go_skip | go_guarded | go_step | go_upon)
        refine wp_region_still_lit (by kernel_rfl) (by kernel_rfl) ?_
        repeat still_step
        still_call (HR17.out _)
        repeat still_step
        still_call (HR19.out _)
        repeat still_step
        refine wpStill_nil ?_
        obtain ⟨V2, hwV2⟩ : ∃ W, W = V1.drew := ⟨_, rfl⟩
        have d7V2 : V2.cell? ⟨P11, j7, none⟩ = some (.int .u32 (a7 : Int)) := by rw [hwV2]; exact d7V1
        have d16V2 : V2.cell? ⟨P11, j16, none⟩ = some (.int .u32 (a16 : Int)) := by rw [hwV2]; exact d16V1
        have ho11V2 : V2.cell? ⟨P11, t, none⟩ = some o11 := by rw [hwV2]; exact ho11V1
        change Exit.then _ _ Exit.normal _ V1.drew
        rw [← hwV2]
        have HAV2 : Hid (Arr V2 P11 51 (u32s (fillL (sched blk 64) 64 t)) ∧ Only (fun k => k = P11) w V2) := Lib.hid (by rw [hwV2]; exact ⟨HAV1.out.1, HAV1.out.2.trans (Only.drew (fun _ => False) V1) (fun _ _ h => h.elim)⟩)
        clear hwV2 d2V1 d7V1 d16V1 ho11V1
        repeat (first | go_values | go_skip | go_guarded | go_step | go_upon)
        go_still_tail 15, (by kernel_rfl)
        obtain ⟨V3, hwV3⟩ : ∃ W, W = V2.drew := ⟨_, rfl⟩
        have ho11V3 : V3.cell? ⟨P11, t, none⟩ = some o11 := by rw [hwV3]; exact ho11V2
        change wpList _ _ _ _ _ V2.drew
        rw [← hwV3]
        have HAV3 : Hid (Arr V3 P11 51 (u32s (fillL (sched blk 64) 64 t)) ∧ Only (fun k => k = P11) w V3) := Lib.hid (by rw [hwV3]; exact ⟨HAV2.out.1, HAV2.out.2.trans (Only.drew (fun _ => False) V2) (fun _ _ h => h.elim)⟩)
        have qV3 : V3.frozen? ⟨P11, t, none⟩ = false := HAV3.out.1.free t
        clear hwV3 d7V2 d16V2 ho11V2
        go_wp2
        go_roundw
        case rel => exact ⟨t + 1, by omega, by go_num, by rw [← fill_set (by omega) HSAT.out]; exact HAV3.out.1.set t _, HAV3.out.2.trans (Only.setCell (S := fun k => k = P11) V3 (p := ⟨P11, t, none⟩) rfl _) (fun _ _ h => h)⟩
        case measure => simp [intOf]; omega
    · have t64 : decide ((t : Int) < 64) = false := by simp only [decide_eq_false_iff_not]; omega
      obtain rfl : t = 64 := by omega
      rw [fill_full HS64.out] at H11t
      have HX := Lib.hid hexit
      clear h11t ho hcell hlt h11
      go_wp2
      unfold loop5X
      repeat apply Exists.intro
      exact ⟨⟨H11t.out, HOt.out⟩, rfl⟩

set_option maxHeartbeats 8000000 in
set_option maxRecDepth 1000000 in
/-- the same, the frame behind it in letters -/
theorem loop5A {blk : List Nat} {P11 gm o8 n8 k8 : Nat} {w : World} {Q : Exit → Act → World → Prop} (hbl : blk.length = 64) (hlt : ∀ x ∈ blk, x < 256) (hn8 : 64 ≤ n8) (hcell : ∀ k, k < 64 → w.cell? ⟨gm, o8 + k, none⟩ = some (.int .u8 ((blk.getD k 0 : Nat) : Int))) (hg : gm ≠ P11) (h11 : Arr w P11 51 (u32s (fillL (sched blk 64) 64 0))) (c0 c1 c2 c3 c4 c5 c6 c7 c9 c10 c12 c13 c14 c15 c16 c17 c18 c19 c20 c21 c22 c23 c24 c25 c26 c27 c28 c29 c30 c31 c32 c33 c34 c35 c36 c37 c38 c39 c40 c41 c42 c43 c44 c45 c46 c47 c48 c49 c50 c51 c52 c53 c54 c55 c56 c57 c58 c59 c60 c61 c62 c63 c64 c65 c66 c67 c68 c69 c70 c71 c72 c73 c74 c75 c76 c77 c78 c79 c80 c81 c82 c84 c85 c86 c87 c88 c89 c90 c91 c92 c93 c94 c95 c96 c97 c98 c99 c100 c101 c102 c103 c104 c105 c106 c107 c108 c109 c110 c111 c112 c113 c114 c115 c116 c117 c118 c119 c120 c121 c122 c123 c124 c125 c126 c127 c128 c129 c130 c131 c132 c133 c134 c135 c136 c137 c138 c139 c140 c141 c142 c143 c144 c145 c146 c147 c148 c149 c150 c151 c152 c153 c154 c155 c156 c157 c158 c159 c160 c161 c162 c163 c164 c165 c166 c167 c168 c169 c170 c171 c172 c173 c174 c175 c176 c177 c178 c179 c180 c181 c182 c183 c184 c185 c186 c187 c188 c189 c190 c191 c192 c193 c194 c195 c196 c197 c198 c199 c200 c201 c202 c203 c204 c205 c206 c207 c208 c209 c210 c211 c212 c213 c214 c215 c216 c217 c218 c219 c220 c221 c222 c223 c224 c225 c226 c227 c228 c229 c230 c231 c232 c233 c234 c235 c236 c237 c238 c239 c240 c241 c242 c243 c244 c245 c246 c247 c248 c249 c250 c251 c252 c253 c254 c255 c256 c257 c258 c259 c260 c261 c262 c263 c264 c265 c266 c267 c268 c269 c270 c271 c272 c273 c274 c275 c276 c277 c278 c279 c280 c281 c282 c283 c284 c285 c286 c287 c288 c289 c290 c291 c292 : Value)
    (hexit : ∀ (u12 u13 u14 u84 u85 u86 u87 u88 u89 u90 u91 u92 u93 u94 u95 u96 u97 u98 u99 u100 u101 u102 u103 u104 u105 u106 u107 u108 u109 u110 u111 u112 u113 u114 u115 u116 u117 u118 u119 u120 u121 u122 u123 u124 u125 u126 u127 u128 u129 u130 u131 u132 u133 u134 u135 u136 u137 u138 u139 u140 u141 u142 u143 u144 u145 u146 u147 u148 u149 u150 u151 u152 u153 u154 u155 u156 u157 u158 u159 u160 u161 u162 u163 u164 u165 u166 u167 u168 u169 u170 u171 u172 : Value) (w'' : World), (Arr w'' P11 51 (u32s (sched blk 64)) ∧ Only (fun k => k = P11) w w'') → Q (.exit 8) ⟨List.toArray (c0 :: c1 :: c2 :: c3 :: c4 :: c5 :: c6 :: c7 :: .slice (some ⟨gm, o8, none⟩) n8 k8 :: c9 :: c10 :: .pointer (some ⟨P11, 0, none⟩) :: u12 :: u13 :: u14 :: c15 :: c16 :: c17 :: c18 :: c19 :: c20 :: c21 :: c22 :: c23 :: c24 :: c25 :: c26 :: c27 :: c28 :: c29 :: c30 :: c31 :: c32 :: c33 :: c34 :: c35 :: c36 :: c37 :: c38 :: c39 :: c40 :: c41 :: c42 :: c43 :: c44 :: c45 :: c46 :: c47 :: c48 :: c49 :: c50 :: c51 :: c52 :: c53 :: c54 :: c55 :: c56 :: c57 :: c58 :: c59 :: c60 :: c61 :: c62 :: c63 :: c64 :: c65 :: c66 :: c67 :: c68 :: c69 :: c70 :: c71 :: c72 :: c73 :: c74 :: c75 :: c76 :: c77 :: c78 :: c79 :: c80 :: c81 :: c82 :: .int .i64 64 :: u84 :: u85 :: u86 :: u87 :: u88 :: u89 :: u90 :: u91 :: u92 :: u93 :: u94 :: u95 :: u96 :: u97 :: u98 :: u99 :: u100 :: u101 :: u102 :: u103 :: u104 :: u105 :: u106 :: u107 :: u108 :: u109 :: u110 :: u111 :: u112 :: u113 :: u114 :: u115 :: u116 :: u117 :: u118 :: u119 :: u120 :: u121 :: u122 :: u123 :: u124 :: u125 :: u126 :: u127 :: u128 :: u129 :: u130 :: u131 :: u132 :: u133 :: u134 :: u135 :: u136 :: u137 :: u138 :: u139 :: u140 :: u141 :: u142 :: u143 :: u144 :: u145 :: u146 :: u147 :: u148 :: u149 :: u150 :: u151 :: u152 :: u153 :: u154 :: u155 :: u156 :: u157 :: u158 :: u159 :: u160 :: u161 :: u162 :: u163 :: u164 :: u165 :: u166 :: u167 :: u168 :: u169 :: u170 :: u171 :: u172 :: c173 :: c174 :: c175 :: c176 :: c177 :: c178 :: c179 :: c180 :: c181 :: c182 :: c183 :: c184 :: c185 :: c186 :: c187 :: c188 :: c189 :: c190 :: c191 :: c192 :: c193 :: c194 :: c195 :: c196 :: c197 :: c198 :: c199 :: c200 :: c201 :: c202 :: c203 :: c204 :: c205 :: c206 :: c207 :: c208 :: c209 :: c210 :: c211 :: c212 :: c213 :: c214 :: c215 :: c216 :: c217 :: c218 :: c219 :: c220 :: c221 :: c222 :: c223 :: c224 :: c225 :: c226 :: c227 :: c228 :: c229 :: c230 :: c231 :: c232 :: c233 :: c234 :: c235 :: c236 :: c237 :: c238 :: c239 :: c240 :: c241 :: c242 :: c243 :: c244 :: c245 :: c246 :: c247 :: c248 :: c249 :: c250 :: c251 :: c252 :: c253 :: c254 :: c255 :: c256 :: c257 :: c258 :: c259 :: c260 :: c261 :: c262 :: c263 :: c264 :: c265 :: c266 :: c267 :: c268 :: c269 :: c270 :: c271 :: c272 :: c273 :: c274 :: c275 :: c276 :: c277 :: c278 :: c279 :: c280 :: c281 :: c282 :: c283 :: c284 :: c285 :: c286 :: c287 :: c288 :: c289 :: c290 :: c291 :: c292 :: []), []⟩ w'') : Code.wp Tryd.prog loop5C Q ⟨List.toArray (c0 :: c1 :: c2 :: c3 :: c4 :: c5 :: c6 :: c7 :: .slice (some ⟨gm, o8, none⟩) n8 k8 :: c9 :: c10 :: .pointer (some ⟨P11, 0, none⟩) :: c12 :: c13 :: c14 :: c15 :: c16 :: c17 :: c18 :: c19 :: c20 :: c21 :: c22 :: c23 :: c24 :: c25 :: c26 :: c27 :: c28 :: c29 :: c30 :: c31 :: c32 :: c33 :: c34 :: c35 :: c36 :: c37 :: c38 :: c39 :: c40 :: c41 :: c42 :: c43 :: c44 :: c45 :: c46 :: c47 :: c48 :: c49 :: c50 :: c51 :: c52 :: c53 :: c54 :: c55 :: c56 :: c57 :: c58 :: c59 :: c60 :: c61 :: c62 :: c63 :: c64 :: c65 :: c66 :: c67 :: c68 :: c69 :: c70 :: c71 :: c72 :: c73 :: c74 :: c75 :: c76 :: c77 :: c78 :: c79 :: c80 :: c81 :: c82 :: .int .i64 0 :: c84 :: c85 :: c86 :: c87 :: c88 :: c89 :: c90 :: c91 :: c92 :: c93 :: c94 :: c95 :: c96 :: c97 :: c98 :: c99 :: c100 :: c101 :: c102 :: c103 :: c104 :: c105 :: c106 :: c107 :: c108 :: c109 :: c110 :: c111 :: c112 :: c113 :: c114 :: c115 :: c116 :: c117 :: c118 :: c119 :: c120 :: c121 :: c122 :: c123 :: c124 :: c125 :: c126 :: c127 :: c128 :: c129 :: c130 :: c131 :: c132 :: c133 :: c134 :: c135 :: c136 :: c137 :: c138 :: c139 :: c140 :: c141 :: c142 :: c143 :: c144 :: c145 :: c146 :: c147 :: c148 :: c149 :: c150 :: c151 :: c152 :: c153 :: c154 :: c155 :: c156 :: c157 :: c158 :: c159 :: c160 :: c161 :: c162 :: c163 :: c164 :: c165 :: c166 :: c167 :: c168 :: c169 :: c170 :: c171 :: c172 :: c173 :: c174 :: c175 :: c176 :: c177 :: c178 :: c179 :: c180 :: c181 :: c182 :: c183 :: c184 :: c185 :: c186 :: c187 :: c188 :: c189 :: c190 :: c191 :: c192 :: c193 :: c194 :: c195 :: c196 :: c197 :: c198 :: c199 :: c200 :: c201 :: c202 :: c203 :: c204 :: c205 :: c206 :: c207 :: c208 :: c209 :: c210 :: c211 :: c212 :: c213 :: c214 :: c215 :: c216 :: c217 :: c218 :: c219 :: c220 :: c221 :: c222 :: c223 :: c224 :: c225 :: c226 :: c227 :: c228 :: c229 :: c230 :: c231 :: c232 :: c233 :: c234 :: c235 :: c236 :: c237 :: c238 :: c239 :: c240 :: c241 :: c242 :: c243 :: c244 :: c245 :: c246 :: c247 :: c248 :: c249 :: c250 :: c251 :: c252 :: c253 :: c254 :: c255 :: c256 :: c257 :: c258 :: c259 :: c260 :: c261 :: c262 :: c263 :: c264 :: c265 :: c266 :: c267 :: c268 :: c269 :: c270 :: c271 :: c272 :: c273 :: c274 :: c275 :: c276 :: c277 :: c278 :: c279 :: c280 :: c281 :: c282 :: c283 :: c284 :: c285 :: c286 :: c287 :: c288 :: c289 :: c290 :: c291 :: c292 :: []), []⟩ w :=
  loop5 hbl hlt hn8 hcell hg h11 c0 c1 c2 c3 c4 c5 c6 c7 c9 c10 c12 c13 c14 c15 c16 c17 c18 c19 c20 c21 c22 c23 c24 c25 c26 c27 c28 c29 c30 c31 c32 c33 c34 c35 c36 c37 c38 c39 c40 c41 c42 c43 c44 c45 c46 c47 c48 c49 c50 c51 c52 c53 c54 c55 c56 c57 c58 c59 c60 c61 c62 c63 c64 c65 c66 c67 c68 c69 c70 c71 c72 c73 c74 c75 c76 c77 c78 c79 c80 c81 c82 c84 c85 c86 c87 c88 c89 c90 c91 c92 c93 c94 c95 c96 c97 c98 c99 c100 c101 c102 c103 c104 c105 c106 c107 c108 c109 c110 c111 c112 c113 c114 c115 c116 c117 c118 c119 c120 c121 c122 c123 c124 c125 c126 c127 c128 c129 c130 c131 c132 c133 c134 c135 c136 c137 c138 c139 c140 c141 c142 c143 c144 c145 c146 c147 c148 c149 c150 c151 c152 c153 c154 c155 c156 c157 c158 c159 c160 c161 c162 c163 c164 c165 c166 c167 c168 c169 c170 c171 c172 c173 c174 c175 c176 c177 c178 c179 c180 c181 c182 c183 c184 c185 c186 c187 c188 c189 c190 c191 c192 c193 c194 c195 c196 c197 c198 c199 c200 c201 c202 c203 c204 c205 c206 c207 c208 c209 c210 c211 c212 c213 c214 c215 c216 c217 c218 c219 c220 c221 c222 c223 c224 c225 c226 c227 c228 c229 c230 c231 c232 c233 c234 c235 c236 c237 c238 c239 c240 c241 c242 c243 c244 c245 c246 c247 c248 c249 c250 c251 c252 c253 c254 c255 c256 c257 c258 c259 c260 c261 c262 c263 c264 c265 c266 c267 c268 c269 c270 c271 c272 c273 c274 c275 c276 c277 c278 c279 c280 c281 c282 c283 c284 c285 c286 c287 c288 c289 c290 c291 c292 fun a' w'' hX => by
    unfold loop5X at hX
    obtain ⟨u12, hX⟩ := hX
    obtain ⟨u13, hX⟩ := hX
    obtain ⟨u14, hX⟩ := hX
    obtain ⟨u84, hX⟩ := hX
    obtain ⟨u85, hX⟩ := hX
    obtain ⟨u86, hX⟩ := hX
    obtain ⟨u87, hX⟩ := hX
    obtain ⟨u88, hX⟩ := hX
    obtain ⟨u89, hX⟩ := hX
    obtain ⟨u90, hX⟩ := hX
    obtain ⟨u91, hX⟩ := hX
    obtain ⟨u92, hX⟩ := hX
    obtain ⟨u93, hX⟩ := hX
    obtain ⟨u94, hX⟩ := hX
    obtain ⟨u95, hX⟩ := hX
    obtain ⟨u96, hX⟩ := hX
    obtain ⟨u97, hX⟩ := hX
    obtain ⟨u98, hX⟩ := hX
    obtain ⟨u99, hX⟩ := hX
    obtain ⟨u100, hX⟩ := hX
    obtain ⟨u101, hX⟩ := hX
    obtain ⟨u102, hX⟩ := hX
    obtain ⟨u103, hX⟩ := hX
    obtain ⟨u104, hX⟩ := hX
    obtain ⟨u105, hX⟩ := hX
    obtain ⟨u106, hX⟩ := hX
    obtain ⟨u107, hX⟩ := hX
    obtain ⟨u108, hX⟩ := hX
    obtain ⟨u109, hX⟩ := hX
    obtain ⟨u110, hX⟩ := hX
    obtain ⟨u111, hX⟩ := hX
    obtain ⟨u112, hX⟩ := hX
    obtain ⟨u113, hX⟩ := hX
    obtain ⟨u114, hX⟩ := hX
    obtain ⟨u115, hX⟩ := hX
    obtain ⟨u116, hX⟩ := hX
    obtain ⟨u117, hX⟩ := hX
    obtain ⟨u118, hX⟩ := hX
    obtain ⟨u119, hX⟩ := hX
    obtain ⟨u120, hX⟩ := hX
    obtain ⟨u121, hX⟩ := hX
    obtain ⟨u122, hX⟩ := hX
    obtain ⟨u123, hX⟩ := hX
    obtain ⟨u124, hX⟩ := hX
    obtain ⟨u125, hX⟩ := hX
    obtain ⟨u126, hX⟩ := hX
    obtain ⟨u127, hX⟩ := hX
    obtain ⟨u128, hX⟩ := hX
    obtain ⟨u129, hX⟩ := hX
    obtain ⟨u130, hX⟩ := hX
    obtain ⟨u131, hX⟩ := hX
    obtain ⟨u132, hX⟩ := hX
    obtain ⟨u133, hX⟩ := hX
    obtain ⟨u134, hX⟩ := hX
    obtain ⟨u135, hX⟩ := hX
    obtain ⟨u136, hX⟩ := hX
    obtain ⟨u137, hX⟩ := hX
    obtain ⟨u138, hX⟩ := hX
    obtain ⟨u139, hX⟩ := hX
    obtain ⟨u140, hX⟩ := hX
    obtain ⟨u141, hX⟩ := hX
    obtain ⟨u142, hX⟩ := hX
    obtain ⟨u143, hX⟩ := hX
    obtain ⟨u144, hX⟩ := hX
    obtain ⟨u145, hX⟩ := hX
    obtain ⟨u146, hX⟩ := hX
    obtain ⟨u147, hX⟩ := hX
    obtain ⟨u148, hX⟩ := hX
    obtain ⟨u149, hX⟩ := hX
    obtain ⟨u150, hX⟩ := hX
    obtain ⟨u151, hX⟩ := hX
    obtain ⟨u152, hX⟩ := hX
    obtain ⟨u153, hX⟩ := hX
    obtain ⟨u154, hX⟩ := hX
    obtain ⟨u155, hX⟩ := hX
    obtain ⟨u156, hX⟩ := hX
    obtain ⟨u157, hX⟩ := hX
    obtain ⟨u158, hX⟩ := hX
    obtain ⟨u159, hX⟩ := hX
    obtain ⟨u160, hX⟩ := hX
    obtain ⟨u161, hX⟩ := hX
    obtain ⟨u162, hX⟩ := hX
    obtain ⟨u163, hX⟩ := hX
    obtain ⟨u164, hX⟩ := hX
    obtain ⟨u165, hX⟩ := hX
    obtain ⟨u166, hX⟩ := hX
    obtain ⟨u167, hX⟩ := hX
    obtain ⟨u168, hX⟩ := hX
    obtain ⟨u169, hX⟩ := hX
    obtain ⟨u170, hX⟩ := hX
    obtain ⟨u171, hX⟩ := hX
    obtain ⟨u172, hX⟩ := hX
    obtain ⟨hr, ha⟩ := hX
    rw [ha]
    exact hexit u12 u13 u14 u84 u85 u86 u87 u88 u89 u90 u91 u92 u93 u94 u95 u96 u97 u98 u99 u100 u101 u102 u103 u104 u105 u106 u107 u108 u109 u110 u111 u112 u113 u114 u115 u116 u117 u118 u119 u120 u121 u122 u123 u124 u125 u126 u127 u128 u129 u130 u131 u132 u133 u134 u135 u136 u137 u138 u139 u140 u141 u142 u143 u144 u145 u146 u147 u148 u149 u150 u151 u152 u153 u154 u155 u156 u157 u158 u159 u160 u161 u162 u163 u164 u165 u166 u167 u168 u169 u170 u171 u172 w'' hr
end Go.Proofs.YtfbnnhailnbmiaaDoor
