/- The document's digest: its rounds. -/
import Derived.Test.YtfbnnhailnbmiaaDoorRefL5
namespace Go.Proofs.YtfbnnhailnbmiaaDoor
open Go.RowKit

theorem xor_ones {x : Nat} (hx : x < 4294967296) : 4294967295 ^^^ x = 4294967295 - x := by
  apply Nat.eq_of_testBit_eq
  intro i
  rw [Nat.testBit_xor, show (4294967295 : Nat) = 2 ^ 32 - 1 by decide, Nat.testBit_two_pow_sub_one, show 2 ^ 32 - 1 - x = 2 ^ 32 - (x + 1) by omega, Nat.testBit_two_pow_sub_succ (n := 32) hx]
  by_cases hi : i < 32
  · simp [hi]
  · have : x.testBit i = false := Nat.testBit_lt_two_pow (Nat.lt_of_lt_of_le hx (Nat.pow_le_pow_right (show 0 < 2 by decide) (by omega : 32 ≤ i)))
    simp [hi, this]
theorem not_u32 {x : Nat} (hx : x < 4294967296) : bits .xor .u32 (if IntKind.u32.signed = true then -1 else IntKind.u32.max) (x : Int) = ((4294967295 - x : Nat) : Int) := by
  rw [show (if IntKind.u32.signed = true then (-1 : Int) else IntKind.u32.max) = ((4294967295 : Nat) : Int) by decide, u32_xor_nat _ _ (by decide) hx, xor_ones hx]
theorem rounds_ok64 {s : Hs} (h : s.ok) (ws : List Nat) (n : Nat) : (rounds ws s n).ok := rounds_ok h ws n

noncomputable def loop6C : Code := (loopsOf (Tryd.f15.body.getD .skip)).getD 5 .skip
set_option maxRecDepth 1000000 in
def loop6X (ws : List Nat) (s0 : Hs) (P5 P11 : Nat) (c0 c1 c2 c3 c4 c6 c7 c8 c9 c10 c12 c13 c14 c26 c27 c28 c29 c30 c31 c32 c33 c34 c35 c36 c37 c38 c39 c40 c41 c42 c43 c44 c45 c46 c47 c48 c49 c50 c51 c52 c53 c54 c55 c56 c57 c58 c59 c60 c61 c62 c63 c64 c65 c66 c67 c68 c69 c70 c71 c72 c73 c74 c75 c76 c77 c78 c79 c80 c81 c82 c83 c84 c85 c86 c87 c88 c89 c90 c91 c92 c93 c94 c95 c96 c97 c98 c99 c100 c101 c102 c103 c104 c105 c106 c107 c108 c109 c110 c111 c112 c113 c114 c115 c116 c117 c118 c119 c120 c121 c122 c123 c124 c125 c126 c127 c128 c129 c130 c131 c132 c133 c134 c135 c136 c137 c138 c139 c140 c141 c142 c143 c144 c145 c146 c147 c148 c149 c150 c151 c152 c153 c154 c155 c156 c157 c158 c159 c160 c161 c162 c163 c164 c165 c166 c167 c168 c169 c170 c171 c172 c173 c174 c175 c176 c177 c178 c179 c180 c181 c182 c183 c184 c185 c186 c187 c188 c252 c253 c254 c255 c256 c257 c258 c259 c260 c261 c262 c263 c264 c265 c266 c267 c268 c269 c270 c271 c272 c273 c274 c275 c276 c277 c278 c279 c280 c281 c282 c283 c284 c285 c286 c287 c288 c289 c290 c291 c292 : Value) (w : World) (a : Act) (w2 : World) : Prop :=
  ∃ u23 u24 u25 u190 u191 u192 u193 u194 u195 u196 u197 u198 u199 u200 u201 u202 u203 u204 u205 u206 u207 u208 u209 u210 u211 u212 u213 u214 u215 u216 u217 u218 u219 u220 u221 u222 u223 u224 u225 u226 u227 u228 u229 u230 u231 u232 u233 u234 u235 u236 u237 u238 u239 u240 u241 u242 u243 u244 u245 u246 u247 u248 u249 u250 u251 : Value, (Only (fun _ => False) w w2) ∧ a = ⟨List.toArray (c0 :: c1 :: c2 :: c3 :: c4 :: .pointer (some ⟨P5, 0, none⟩) :: c6 :: c7 :: c8 :: c9 :: c10 :: .pointer (some ⟨P11, 0, none⟩) :: c12 :: c13 :: c14 :: .int .u32 ((rounds ws s0 64).a : Nat) :: .int .u32 ((rounds ws s0 64).b : Nat) :: .int .u32 ((rounds ws s0 64).c : Nat) :: .int .u32 ((rounds ws s0 64).d : Nat) :: .int .u32 ((rounds ws s0 64).e : Nat) :: .int .u32 ((rounds ws s0 64).f : Nat) :: .int .u32 ((rounds ws s0 64).g : Nat) :: .int .u32 ((rounds ws s0 64).h : Nat) :: u23 :: u24 :: u25 :: c26 :: c27 :: c28 :: c29 :: c30 :: c31 :: c32 :: c33 :: c34 :: c35 :: c36 :: c37 :: c38 :: c39 :: c40 :: c41 :: c42 :: c43 :: c44 :: c45 :: c46 :: c47 :: c48 :: c49 :: c50 :: c51 :: c52 :: c53 :: c54 :: c55 :: c56 :: c57 :: c58 :: c59 :: c60 :: c61 :: c62 :: c63 :: c64 :: c65 :: c66 :: c67 :: c68 :: c69 :: c70 :: c71 :: c72 :: c73 :: c74 :: c75 :: c76 :: c77 :: c78 :: c79 :: c80 :: c81 :: c82 :: c83 :: c84 :: c85 :: c86 :: c87 :: c88 :: c89 :: c90 :: c91 :: c92 :: c93 :: c94 :: c95 :: c96 :: c97 :: c98 :: c99 :: c100 :: c101 :: c102 :: c103 :: c104 :: c105 :: c106 :: c107 :: c108 :: c109 :: c110 :: c111 :: c112 :: c113 :: c114 :: c115 :: c116 :: c117 :: c118 :: c119 :: c120 :: c121 :: c122 :: c123 :: c124 :: c125 :: c126 :: c127 :: c128 :: c129 :: c130 :: c131 :: c132 :: c133 :: c134 :: c135 :: c136 :: c137 :: c138 :: c139 :: c140 :: c141 :: c142 :: c143 :: c144 :: c145 :: c146 :: c147 :: c148 :: c149 :: c150 :: c151 :: c152 :: c153 :: c154 :: c155 :: c156 :: c157 :: c158 :: c159 :: c160 :: c161 :: c162 :: c163 :: c164 :: c165 :: c166 :: c167 :: c168 :: c169 :: c170 :: c171 :: c172 :: c173 :: c174 :: c175 :: c176 :: c177 :: c178 :: c179 :: c180 :: c181 :: c182 :: c183 :: c184 :: c185 :: c186 :: c187 :: c188 :: .int .i64 64 :: u190 :: u191 :: u192 :: u193 :: u194 :: u195 :: u196 :: u197 :: u198 :: u199 :: u200 :: u201 :: u202 :: u203 :: u204 :: u205 :: u206 :: u207 :: u208 :: u209 :: u210 :: u211 :: u212 :: u213 :: u214 :: u215 :: u216 :: u217 :: u218 :: u219 :: u220 :: u221 :: u222 :: u223 :: u224 :: u225 :: u226 :: u227 :: u228 :: u229 :: u230 :: u231 :: u232 :: u233 :: u234 :: u235 :: u236 :: u237 :: u238 :: u239 :: u240 :: u241 :: u242 :: u243 :: u244 :: u245 :: u246 :: u247 :: u248 :: u249 :: u250 :: u251 :: c252 :: c253 :: c254 :: c255 :: c256 :: c257 :: c258 :: c259 :: c260 :: c261 :: c262 :: c263 :: c264 :: c265 :: c266 :: c267 :: c268 :: c269 :: c270 :: c271 :: c272 :: c273 :: c274 :: c275 :: c276 :: c277 :: c278 :: c279 :: c280 :: c281 :: c282 :: c283 :: c284 :: c285 :: c286 :: c287 :: c288 :: c289 :: c290 :: c291 :: c292 :: []), []⟩
set_option maxHeartbeats 8000000 in
set_option maxRecDepth 1000000 in
theorem loop6 {ws : List Nat} {s0 : Hs} {P5 P11 : Nat} {w : World} {Q : Exit → Act → World → Prop} (hs0 : s0.ok) (hws : ws.length = 64) (h5 : Arr w P5 51 (u32s keysL)) (h11 : Arr w P11 51 (u32s ws)) (c0 c1 c2 c3 c4 c6 c7 c8 c9 c10 c12 c13 c14 c23 c24 c25 c26 c27 c28 c29 c30 c31 c32 c33 c34 c35 c36 c37 c38 c39 c40 c41 c42 c43 c44 c45 c46 c47 c48 c49 c50 c51 c52 c53 c54 c55 c56 c57 c58 c59 c60 c61 c62 c63 c64 c65 c66 c67 c68 c69 c70 c71 c72 c73 c74 c75 c76 c77 c78 c79 c80 c81 c82 c83 c84 c85 c86 c87 c88 c89 c90 c91 c92 c93 c94 c95 c96 c97 c98 c99 c100 c101 c102 c103 c104 c105 c106 c107 c108 c109 c110 c111 c112 c113 c114 c115 c116 c117 c118 c119 c120 c121 c122 c123 c124 c125 c126 c127 c128 c129 c130 c131 c132 c133 c134 c135 c136 c137 c138 c139 c140 c141 c142 c143 c144 c145 c146 c147 c148 c149 c150 c151 c152 c153 c154 c155 c156 c157 c158 c159 c160 c161 c162 c163 c164 c165 c166 c167 c168 c169 c170 c171 c172 c173 c174 c175 c176 c177 c178 c179 c180 c181 c182 c183 c184 c185 c186 c187 c188 c190 c191 c192 c193 c194 c195 c196 c197 c198 c199 c200 c201 c202 c203 c204 c205 c206 c207 c208 c209 c210 c211 c212 c213 c214 c215 c216 c217 c218 c219 c220 c221 c222 c223 c224 c225 c226 c227 c228 c229 c230 c231 c232 c233 c234 c235 c236 c237 c238 c239 c240 c241 c242 c243 c244 c245 c246 c247 c248 c249 c250 c251 c252 c253 c254 c255 c256 c257 c258 c259 c260 c261 c262 c263 c264 c265 c266 c267 c268 c269 c270 c271 c272 c273 c274 c275 c276 c277 c278 c279 c280 c281 c282 c283 c284 c285 c286 c287 c288 c289 c290 c291 c292 : Value)
    (hexit : ∀ a' w'', loop6X ws s0 P5 P11 c0 c1 c2 c3 c4 c6 c7 c8 c9 c10 c12 c13 c14 c26 c27 c28 c29 c30 c31 c32 c33 c34 c35 c36 c37 c38 c39 c40 c41 c42 c43 c44 c45 c46 c47 c48 c49 c50 c51 c52 c53 c54 c55 c56 c57 c58 c59 c60 c61 c62 c63 c64 c65 c66 c67 c68 c69 c70 c71 c72 c73 c74 c75 c76 c77 c78 c79 c80 c81 c82 c83 c84 c85 c86 c87 c88 c89 c90 c91 c92 c93 c94 c95 c96 c97 c98 c99 c100 c101 c102 c103 c104 c105 c106 c107 c108 c109 c110 c111 c112 c113 c114 c115 c116 c117 c118 c119 c120 c121 c122 c123 c124 c125 c126 c127 c128 c129 c130 c131 c132 c133 c134 c135 c136 c137 c138 c139 c140 c141 c142 c143 c144 c145 c146 c147 c148 c149 c150 c151 c152 c153 c154 c155 c156 c157 c158 c159 c160 c161 c162 c163 c164 c165 c166 c167 c168 c169 c170 c171 c172 c173 c174 c175 c176 c177 c178 c179 c180 c181 c182 c183 c184 c185 c186 c187 c188 c252 c253 c254 c255 c256 c257 c258 c259 c260 c261 c262 c263 c264 c265 c266 c267 c268 c269 c270 c271 c272 c273 c274 c275 c276 c277 c278 c279 c280 c281 c282 c283 c284 c285 c286 c287 c288 c289 c290 c291 c292 w a' w'' → Q (.exit 10) a' w'') : Code.wp Tryd.prog loop6C Q ⟨List.toArray (c0 :: c1 :: c2 :: c3 :: c4 :: .pointer (some ⟨P5, 0, none⟩) :: c6 :: c7 :: c8 :: c9 :: c10 :: .pointer (some ⟨P11, 0, none⟩) :: c12 :: c13 :: c14 :: .int .u32 (s0.a : Nat) :: .int .u32 (s0.b : Nat) :: .int .u32 (s0.c : Nat) :: .int .u32 (s0.d : Nat) :: .int .u32 (s0.e : Nat) :: .int .u32 (s0.f : Nat) :: .int .u32 (s0.g : Nat) :: .int .u32 (s0.h : Nat) :: c23 :: c24 :: c25 :: c26 :: c27 :: c28 :: c29 :: c30 :: c31 :: c32 :: c33 :: c34 :: c35 :: c36 :: c37 :: c38 :: c39 :: c40 :: c41 :: c42 :: c43 :: c44 :: c45 :: c46 :: c47 :: c48 :: c49 :: c50 :: c51 :: c52 :: c53 :: c54 :: c55 :: c56 :: c57 :: c58 :: c59 :: c60 :: c61 :: c62 :: c63 :: c64 :: c65 :: c66 :: c67 :: c68 :: c69 :: c70 :: c71 :: c72 :: c73 :: c74 :: c75 :: c76 :: c77 :: c78 :: c79 :: c80 :: c81 :: c82 :: c83 :: c84 :: c85 :: c86 :: c87 :: c88 :: c89 :: c90 :: c91 :: c92 :: c93 :: c94 :: c95 :: c96 :: c97 :: c98 :: c99 :: c100 :: c101 :: c102 :: c103 :: c104 :: c105 :: c106 :: c107 :: c108 :: c109 :: c110 :: c111 :: c112 :: c113 :: c114 :: c115 :: c116 :: c117 :: c118 :: c119 :: c120 :: c121 :: c122 :: c123 :: c124 :: c125 :: c126 :: c127 :: c128 :: c129 :: c130 :: c131 :: c132 :: c133 :: c134 :: c135 :: c136 :: c137 :: c138 :: c139 :: c140 :: c141 :: c142 :: c143 :: c144 :: c145 :: c146 :: c147 :: c148 :: c149 :: c150 :: c151 :: c152 :: c153 :: c154 :: c155 :: c156 :: c157 :: c158 :: c159 :: c160 :: c161 :: c162 :: c163 :: c164 :: c165 :: c166 :: c167 :: c168 :: c169 :: c170 :: c171 :: c172 :: c173 :: c174 :: c175 :: c176 :: c177 :: c178 :: c179 :: c180 :: c181 :: c182 :: c183 :: c184 :: c185 :: c186 :: c187 :: c188 :: .int .i64 0 :: c190 :: c191 :: c192 :: c193 :: c194 :: c195 :: c196 :: c197 :: c198 :: c199 :: c200 :: c201 :: c202 :: c203 :: c204 :: c205 :: c206 :: c207 :: c208 :: c209 :: c210 :: c211 :: c212 :: c213 :: c214 :: c215 :: c216 :: c217 :: c218 :: c219 :: c220 :: c221 :: c222 :: c223 :: c224 :: c225 :: c226 :: c227 :: c228 :: c229 :: c230 :: c231 :: c232 :: c233 :: c234 :: c235 :: c236 :: c237 :: c238 :: c239 :: c240 :: c241 :: c242 :: c243 :: c244 :: c245 :: c246 :: c247 :: c248 :: c249 :: c250 :: c251 :: c252 :: c253 :: c254 :: c255 :: c256 :: c257 :: c258 :: c259 :: c260 :: c261 :: c262 :: c263 :: c264 :: c265 :: c266 :: c267 :: c268 :: c269 :: c270 :: c271 :: c272 :: c273 :: c274 :: c275 :: c276 :: c277 :: c278 :: c279 :: c280 :: c281 :: c282 :: c283 :: c284 :: c285 :: c286 :: c287 :: c288 :: c289 :: c290 :: c291 :: c292 :: []), []⟩ w := by
  conv => arg 2; whnf
  go_loopw [15, 16, 17, 18, 19, 20, 21, 22, 189] (fun va vb vc vd ve vf vg vh c wr => ∃ t : Nat, t ≤ 64 ∧ c = .int .i64 t ∧ va = .int .u32 ((rounds ws s0 t).a : Nat) ∧ vb = .int .u32 ((rounds ws s0 t).b : Nat) ∧ vc = .int .u32 ((rounds ws s0 t).c : Nat) ∧ vd = .int .u32 ((rounds ws s0 t).d : Nat) ∧ ve = .int .u32 ((rounds ws s0 t).e : Nat) ∧ vf = .int .u32 ((rounds ws s0 t).f : Nat) ∧ vg = .int .u32 ((rounds ws s0 t).g : Nat) ∧ vh = .int .u32 ((rounds ws s0 t).h : Nat) ∧ Only (fun _ => False) w wr) (fun _ _ _ _ _ _ _ _ c _ => 64 - (intOf c).toNat)
  case atStart => exact ⟨0, by omega, rfl, rfl, rfl, rfl, rfl, rfl, rfl, rfl, rfl, Only.refl _ _⟩
  case round =>
    obtain ⟨t, ht, rfl, rfl, rfl, rfl, rfl, rfl, rfl, rfl, rfl, ho⟩ := hrel
    have HO := Lib.hid ho
    have H5 := Lib.hid (h5.only ho (fun h => h))
    have H11 := Lib.hid (h11.only ho (fun h => h))
    by_cases hlt64 : t < 64
    · have t64 : decide ((t : Int) < 64) = true := by simp only [decide_eq_true_eq]; omega
      have hti : (t : Int) < 64 := by omega
      obtain ⟨wt, hwt⟩ : ∃ x, ws[t]? = some x := ⟨ws[t]'(by omega), List.getElem?_eq_getElem (by omega)⟩
      obtain ⟨kt, hkt⟩ : ∃ x, keysL[t]? = some x := ⟨keysL[t]'(by rw [show keysL.length = 64 by decide]; omega), List.getElem?_eq_getElem _⟩
      have d5 := H5.out.cell (u32s_at hkt)
      have d11 := H11.out.cell (u32s_at hwt)
      obtain ⟨⟨va, vb, vc, vd, ve, vf, vg, vh⟩, hs⟩ : ∃ s, s = rounds ws s0 t := ⟨_, rfl⟩
      have hok := rounds_ok hs0 ws t
      rw [← hs] at hok ⊢
      obtain ⟨la, lb, lc, ld, le, lf, lg, lh⟩ := hok
      simp only at la lb lc ld le lf lg lh ⊢
      have HS : Hid (rounds ws s0 (t + 1) = round1 ⟨va, vb, vc, vd, ve, vf, vg, vh⟩ kt wt) := Lib.hid (by
        rw [rounds, ← hs]; simp only [List.getD, hkt, hwt, Option.getD_some])
      have HRe6 : Hid (∀ W, Calls Tryd.prog 27 #[.int .u32 (ve : Int), .int .u64 6] W fun e w' => e = .returned (.int .u32 ((rotr ve 6 : Nat) : Int)) ∧ w' = W) := Lib.hid fun W => rturn_any (k := 6) le (by omega) (by omega) W
      have HRe11 : Hid (∀ W, Calls Tryd.prog 27 #[.int .u32 (ve : Int), .int .u64 11] W fun e w' => e = .returned (.int .u32 ((rotr ve 11 : Nat) : Int)) ∧ w' = W) := Lib.hid fun W => rturn_any (k := 11) le (by omega) (by omega) W
      have HRe25 : Hid (∀ W, Calls Tryd.prog 27 #[.int .u32 (ve : Int), .int .u64 25] W fun e w' => e = .returned (.int .u32 ((rotr ve 25 : Nat) : Int)) ∧ w' = W) := Lib.hid fun W => rturn_any (k := 25) le (by omega) (by omega) W
      have HRa2 : Hid (∀ W, Calls Tryd.prog 27 #[.int .u32 (va : Int), .int .u64 2] W fun e w' => e = .returned (.int .u32 ((rotr va 2 : Nat) : Int)) ∧ w' = W) := Lib.hid fun W => rturn_any (k := 2) la (by omega) (by omega) W
      have HRa13 : Hid (∀ W, Calls Tryd.prog 27 #[.int .u32 (va : Int), .int .u64 13] W fun e w' => e = .returned (.int .u32 ((rotr va 13 : Nat) : Int)) ∧ w' = W) := Lib.hid fun W => rturn_any (k := 13) la (by omega) (by omega) W
      have HRa22 : Hid (∀ W, Calls Tryd.prog 27 #[.int .u32 (va : Int), .int .u64 22] W fun e w' => e = .returned (.int .u32 ((rotr va 22 : Nat) : Int)) ∧ w' = W) := Lib.hid fun W => rturn_any (k := 22) la (by omega) (by omega) W
      clear h5 h11 hs hwt hkt hexit ho
      obtain ⟨p1, hp1⟩ : ∃ p, p = rotr ve 6 ^^^ rotr ve 11 := ⟨_, rfl⟩
      obtain ⟨S1, hS1⟩ : ∃ p, p = big1 ve := ⟨_, rfl⟩
      obtain ⟨n1, hn1⟩ : ∃ p, p = ve &&& vf := ⟨_, rfl⟩
      obtain ⟨n0, hn0⟩ : ∃ p, p = 4294967295 - ve := ⟨_, rfl⟩
      obtain ⟨n2, hn2⟩ : ∃ p, p = n0 &&& vg := ⟨_, rfl⟩
      obtain ⟨ch, hch⟩ : ∃ p, p = chF ve vf vg := ⟨_, rfl⟩
      obtain ⟨q1, hq1⟩ : ∃ p, p = (vh + S1) % 4294967296 := ⟨_, rfl⟩
      obtain ⟨q2, hq2⟩ : ∃ p, p = (q1 + ch) % 4294967296 := ⟨_, rfl⟩
      obtain ⟨q3, hq3⟩ : ∃ p, p = (q2 + kt) % 4294967296 := ⟨_, rfl⟩
      obtain ⟨t1, ht1⟩ : ∃ p, p = (q3 + wt) % 4294967296 := ⟨_, rfl⟩
      obtain ⟨p3, hp3⟩ : ∃ p, p = rotr va 2 ^^^ rotr va 13 := ⟨_, rfl⟩
      obtain ⟨S0, hS0⟩ : ∃ p, p = big0 va := ⟨_, rfl⟩
      obtain ⟨m1, hm1⟩ : ∃ p, p = va &&& vb := ⟨_, rfl⟩
      obtain ⟨m2, hm2⟩ : ∃ p, p = va &&& vc := ⟨_, rfl⟩
      obtain ⟨m3, hm3⟩ : ∃ p, p = m1 ^^^ m2 := ⟨_, rfl⟩
      obtain ⟨m4, hm4⟩ : ∃ p, p = vb &&& vc := ⟨_, rfl⟩
      obtain ⟨mj, hmj⟩ : ∃ p, p = majF va vb vc := ⟨_, rfl⟩
      obtain ⟨t2, ht2⟩ : ∃ p, p = (S0 + mj) % 4294967296 := ⟨_, rfl⟩
      obtain ⟨ne, hne⟩ : ∃ p, p = (vd + t1) % 4294967296 := ⟨_, rfl⟩
      obtain ⟨na, hna⟩ : ∃ p, p = (t1 + t2) % 4294967296 := ⟨_, rfl⟩
      have HT1 : Hid (t1 = t1F ⟨va, vb, vc, vd, ve, vf, vg, vh⟩ kt wt) := Lib.hid (by rw [ht1, hq3, hq2, hq1, t1F, ← hS1, ← hch]; simp only; omega)
      have HT2 : Hid (t2 = t2F ⟨va, vb, vc, vd, ve, vf, vg, vh⟩) := Lib.hid (by rw [ht2, t2F, ← hS0, ← hmj])
      have x1 : bits .xor .u32 ((rotr ve 6 : Nat) : Int) ((rotr ve 11 : Nat) : Int) = (p1 : Int) := by rw [u32_xor_nat _ _ (rotr_lt le) (rotr_lt le), hp1]
      have x2 : bits .xor .u32 (p1 : Int) ((rotr ve 25 : Nat) : Int) = (S1 : Int) := by rw [u32_xor_nat _ _ (by rw [hp1]; exact xor_lt (rotr_lt le) (rotr_lt le)) (rotr_lt le), hp1, hS1]; rfl
      have x3 : bits .and .u32 (ve : Int) (vf : Int) = (n1 : Int) := by rw [u32_and_nat _ _ le lf, hn1]
      have x4 : bits .xor .u32 (if IntKind.u32.signed = true then -1 else IntKind.u32.max) (ve : Int) = (n0 : Int) := by rw [not_u32 le, hn0]
      have x5 : bits .and .u32 (n0 : Int) (vg : Int) = (n2 : Int) := by rw [u32_and_nat _ _ (by omega) lg, hn2]
      have x6 : bits .xor .u32 (n1 : Int) (n2 : Int) = (ch : Int) := by rw [u32_xor_nat _ _ (by rw [hn1]; exact and_lt lf) (by rw [hn2]; exact and_lt lg), hn1, hn2, hn0, hch]; rfl
      have x7 : bits .xor .u32 ((rotr va 2 : Nat) : Int) ((rotr va 13 : Nat) : Int) = (p3 : Int) := by rw [u32_xor_nat _ _ (rotr_lt la) (rotr_lt la), hp3]
      have x8 : bits .xor .u32 (p3 : Int) ((rotr va 22 : Nat) : Int) = (S0 : Int) := by rw [u32_xor_nat _ _ (by rw [hp3]; exact xor_lt (rotr_lt la) (rotr_lt la)) (rotr_lt la), hp3, hS0]; rfl
      have x9 : bits .and .u32 (va : Int) (vb : Int) = (m1 : Int) := by rw [u32_and_nat _ _ la lb, hm1]
      have x10 : bits .and .u32 (va : Int) (vc : Int) = (m2 : Int) := by rw [u32_and_nat _ _ la lc, hm2]
      have x11 : bits .xor .u32 (m1 : Int) (m2 : Int) = (m3 : Int) := by rw [u32_xor_nat _ _ (by rw [hm1]; exact and_lt lb) (by rw [hm2]; exact and_lt lc), hm3]
      have x12 : bits .and .u32 (vb : Int) (vc : Int) = (m4 : Int) := by rw [u32_and_nat _ _ lb lc, hm4]
      have x13 : bits .xor .u32 (m3 : Int) (m4 : Int) = (mj : Int) := by rw [u32_xor_nat _ _ (by rw [hm3, hm1, hm2]; exact xor_lt (and_lt lb) (and_lt lc)) (by rw [hm4]; exact and_lt lc), hm3, hm1, hm2, hm4, hmj]; rfl
      have y1 : IntKind.u32.wrap ((vh : Int) + S1) = (q1 : Int) := by rw [IntKind.wrap_u32, hq1]; omega
      have y2 : IntKind.u32.wrap ((q1 : Int) + ch) = (q2 : Int) := by rw [IntKind.wrap_u32, hq2]; omega
      have y3 : IntKind.u32.wrap ((q2 : Int) + kt) = (q3 : Int) := by rw [IntKind.wrap_u32, hq3]; omega
      have y4 : IntKind.u32.wrap ((q3 : Int) + wt) = (t1 : Int) := by rw [IntKind.wrap_u32, ht1]; omega
      have y5 : IntKind.u32.wrap ((S0 : Int) + mj) = (t2 : Int) := by rw [IntKind.wrap_u32, ht2]; omega
      have y6 : IntKind.u32.wrap ((vd : Int) + t1) = (ne : Int) := by rw [IntKind.wrap_u32, hne]; omega
      have y7 : IntKind.u32.wrap ((t1 : Int) + t2) = (na : Int) := by rw [IntKind.wrap_u32, hna]; omega
      have HNX : Hid (rounds ws s0 (t + 1) = ⟨na, va, vb, vc, ne, ve, vf, vg⟩) := Lib.hid (by rw [HS.out, round1, ← HT1.out, ← HT2.out, hna, hne])
      clear hp1 hS1 hn1 hn0 hn2 hch hq1 hq2 hq3 ht1 hp3 hS0 hm1 hm2 hm3 hm4 hmj ht2 hne hna la lb lc ld le lf lg lh
      repeat (first | go_values | go_skip | go_guarded | go_step | go_upon)
      refine wp_region_still_lit (by kernel_rfl) (by kernel_rfl) ?_
      repeat still_step
      still_call (HRe6.out _)
      repeat still_step
      still_call (HRe11.out _)
      repeat still_step
      still_call (HRe25.out _)
      repeat still_step
      refine wpStill_nil ?_
      obtain ⟨V1, hV1⟩ : ∃ W, W = wr.drew := ⟨_, rfl⟩
      change Exit.then _ _ Exit.normal _ wr.drew
      rw [← hV1]
      have HV1 : Hid (Only (fun _ => False) w V1) := Lib.hid (by rw [hV1]; exact HO.out.trans (Only.drew (fun _ => False) wr) (fun _ _ h => h))
      clear hV1 d5 d11
      repeat (first | go_values | go_skip | go_guarded | go_step | go_upon)
      refine (HRa2.out _).mono ?_
      rintro e w' ⟨rfl, rfl⟩
      dsimp only
      repeat (first | go_values | go_skip | go_guarded | go_step | go_upon)
      refine (HRa13.out _).mono ?_
      rintro e w' ⟨rfl, rfl⟩
      dsimp only
      repeat (first | go_values | go_skip | go_guarded | go_step | go_upon)
      refine (HRa22.out _).mono ?_
      rintro e w' ⟨rfl, rfl⟩
      dsimp only
      repeat (first | go_values | go_skip | go_guarded | go_step | go_upon)
      go_roundw
      case rel => exact ⟨t + 1, by omega, by go_num, by rw [HNX.out], by rw [HNX.out], by rw [HNX.out], by rw [HNX.out], by rw [HNX.out], by rw [HNX.out], by rw [HNX.out], by rw [HNX.out], HV1.out⟩
      case measure => simp [intOf]; omega
    · have t64 : decide ((t : Int) < 64) = false := by simp only [decide_eq_false_iff_not]; omega
      obtain rfl : t = 64 := by omega
      have HX := Lib.hid hexit
      clear ho h5 h11
      go_wp2
      unfold loop6X
      repeat apply Exists.intro
      exact ⟨HO.out, rfl⟩

set_option maxHeartbeats 8000000 in
set_option maxRecDepth 1000000 in
/-- the same, the frame behind it in letters -/
theorem loop6A {ws : List Nat} {s0 : Hs} {P5 P11 : Nat} {w : World} {Q : Exit → Act → World → Prop} (hs0 : s0.ok) (hws : ws.length = 64) (h5 : Arr w P5 51 (u32s keysL)) (h11 : Arr w P11 51 (u32s ws)) (c0 c1 c2 c3 c4 c6 c7 c8 c9 c10 c12 c13 c14 c23 c24 c25 c26 c27 c28 c29 c30 c31 c32 c33 c34 c35 c36 c37 c38 c39 c40 c41 c42 c43 c44 c45 c46 c47 c48 c49 c50 c51 c52 c53 c54 c55 c56 c57 c58 c59 c60 c61 c62 c63 c64 c65 c66 c67 c68 c69 c70 c71 c72 c73 c74 c75 c76 c77 c78 c79 c80 c81 c82 c83 c84 c85 c86 c87 c88 c89 c90 c91 c92 c93 c94 c95 c96 c97 c98 c99 c100 c101 c102 c103 c104 c105 c106 c107 c108 c109 c110 c111 c112 c113 c114 c115 c116 c117 c118 c119 c120 c121 c122 c123 c124 c125 c126 c127 c128 c129 c130 c131 c132 c133 c134 c135 c136 c137 c138 c139 c140 c141 c142 c143 c144 c145 c146 c147 c148 c149 c150 c151 c152 c153 c154 c155 c156 c157 c158 c159 c160 c161 c162 c163 c164 c165 c166 c167 c168 c169 c170 c171 c172 c173 c174 c175 c176 c177 c178 c179 c180 c181 c182 c183 c184 c185 c186 c187 c188 c190 c191 c192 c193 c194 c195 c196 c197 c198 c199 c200 c201 c202 c203 c204 c205 c206 c207 c208 c209 c210 c211 c212 c213 c214 c215 c216 c217 c218 c219 c220 c221 c222 c223 c224 c225 c226 c227 c228 c229 c230 c231 c232 c233 c234 c235 c236 c237 c238 c239 c240 c241 c242 c243 c244 c245 c246 c247 c248 c249 c250 c251 c252 c253 c254 c255 c256 c257 c258 c259 c260 c261 c262 c263 c264 c265 c266 c267 c268 c269 c270 c271 c272 c273 c274 c275 c276 c277 c278 c279 c280 c281 c282 c283 c284 c285 c286 c287 c288 c289 c290 c291 c292 : Value)
    (hexit : ∀ (u23 u24 u25 u190 u191 u192 u193 u194 u195 u196 u197 u198 u199 u200 u201 u202 u203 u204 u205 u206 u207 u208 u209 u210 u211 u212 u213 u214 u215 u216 u217 u218 u219 u220 u221 u222 u223 u224 u225 u226 u227 u228 u229 u230 u231 u232 u233 u234 u235 u236 u237 u238 u239 u240 u241 u242 u243 u244 u245 u246 u247 u248 u249 u250 u251 : Value) (w'' : World), (Only (fun _ => False) w w'') → Q (.exit 10) ⟨List.toArray (c0 :: c1 :: c2 :: c3 :: c4 :: .pointer (some ⟨P5, 0, none⟩) :: c6 :: c7 :: c8 :: c9 :: c10 :: .pointer (some ⟨P11, 0, none⟩) :: c12 :: c13 :: c14 :: .int .u32 ((rounds ws s0 64).a : Nat) :: .int .u32 ((rounds ws s0 64).b : Nat) :: .int .u32 ((rounds ws s0 64).c : Nat) :: .int .u32 ((rounds ws s0 64).d : Nat) :: .int .u32 ((rounds ws s0 64).e : Nat) :: .int .u32 ((rounds ws s0 64).f : Nat) :: .int .u32 ((rounds ws s0 64).g : Nat) :: .int .u32 ((rounds ws s0 64).h : Nat) :: u23 :: u24 :: u25 :: c26 :: c27 :: c28 :: c29 :: c30 :: c31 :: c32 :: c33 :: c34 :: c35 :: c36 :: c37 :: c38 :: c39 :: c40 :: c41 :: c42 :: c43 :: c44 :: c45 :: c46 :: c47 :: c48 :: c49 :: c50 :: c51 :: c52 :: c53 :: c54 :: c55 :: c56 :: c57 :: c58 :: c59 :: c60 :: c61 :: c62 :: c63 :: c64 :: c65 :: c66 :: c67 :: c68 :: c69 :: c70 :: c71 :: c72 :: c73 :: c74 :: c75 :: c76 :: c77 :: c78 :: c79 :: c80 :: c81 :: c82 :: c83 :: c84 :: c85 :: c86 :: c87 :: c88 :: c89 :: c90 :: c91 :: c92 :: c93 :: c94 :: c95 :: c96 :: c97 :: c98 :: c99 :: c100 :: c101 :: c102 :: c103 :: c104 :: c105 :: c106 :: c107 :: c108 :: c109 :: c110 :: c111 :: c112 :: c113 :: c114 :: c115 :: c116 :: c117 :: c118 :: c119 :: c120 :: c121 :: c122 :: c123 :: c124 :: c125 :: c126 :: c127 :: c128 :: c129 :: c130 :: c131 :: c132 :: c133 :: c134 :: c135 :: c136 :: c137 :: c138 :: c139 :: c140 :: c141 :: c142 :: c143 :: c144 :: c145 :: c146 :: c147 :: c148 :: c149 :: c150 :: c151 :: c152 :: c153 :: c154 :: c155 :: c156 :: c157 :: c158 :: c159 :: c160 :: c161 :: c162 :: c163 :: c164 :: c165 :: c166 :: c167 :: c168 :: c169 :: c170 :: c171 :: c172 :: c173 :: c174 :: c175 :: c176 :: c177 :: c178 :: c179 :: c180 :: c181 :: c182 :: c183 :: c184 :: c185 :: c186 :: c187 :: c188 :: .int .i64 64 :: u190 :: u191 :: u192 :: u193 :: u194 :: u195 :: u196 :: u197 :: u198 :: u199 :: u200 :: u201 :: u202 :: u203 :: u204 :: u205 :: u206 :: u207 :: u208 :: u209 :: u210 :: u211 :: u212 :: u213 :: u214 :: u215 :: u216 :: u217 :: u218 :: u219 :: u220 :: u221 :: u222 :: u223 :: u224 :: u225 :: u226 :: u227 :: u228 :: u229 :: u230 :: u231 :: u232 :: u233 :: u234 :: u235 :: u236 :: u237 :: u238 :: u239 :: u240 :: u241 :: u242 :: u243 :: u244 :: u245 :: u246 :: u247 :: u248 :: u249 :: u250 :: u251 :: c252 :: c253 :: c254 :: c255 :: c256 :: c257 :: c258 :: c259 :: c260 :: c261 :: c262 :: c263 :: c264 :: c265 :: c266 :: c267 :: c268 :: c269 :: c270 :: c271 :: c272 :: c273 :: c274 :: c275 :: c276 :: c277 :: c278 :: c279 :: c280 :: c281 :: c282 :: c283 :: c284 :: c285 :: c286 :: c287 :: c288 :: c289 :: c290 :: c291 :: c292 :: []), []⟩ w'') : Code.wp Tryd.prog loop6C Q ⟨List.toArray (c0 :: c1 :: c2 :: c3 :: c4 :: .pointer (some ⟨P5, 0, none⟩) :: c6 :: c7 :: c8 :: c9 :: c10 :: .pointer (some ⟨P11, 0, none⟩) :: c12 :: c13 :: c14 :: .int .u32 (s0.a : Nat) :: .int .u32 (s0.b : Nat) :: .int .u32 (s0.c : Nat) :: .int .u32 (s0.d : Nat) :: .int .u32 (s0.e : Nat) :: .int .u32 (s0.f : Nat) :: .int .u32 (s0.g : Nat) :: .int .u32 (s0.h : Nat) :: c23 :: c24 :: c25 :: c26 :: c27 :: c28 :: c29 :: c30 :: c31 :: c32 :: c33 :: c34 :: c35 :: c36 :: c37 :: c38 :: c39 :: c40 :: c41 :: c42 :: c43 :: c44 :: c45 :: c46 :: c47 :: c48 :: c49 :: c50 :: c51 :: c52 :: c53 :: c54 :: c55 :: c56 :: c57 :: c58 :: c59 :: c60 :: c61 :: c62 :: c63 :: c64 :: c65 :: c66 :: c67 :: c68 :: c69 :: c70 :: c71 :: c72 :: c73 :: c74 :: c75 :: c76 :: c77 :: c78 :: c79 :: c80 :: c81 :: c82 :: c83 :: c84 :: c85 :: c86 :: c87 :: c88 :: c89 :: c90 :: c91 :: c92 :: c93 :: c94 :: c95 :: c96 :: c97 :: c98 :: c99 :: c100 :: c101 :: c102 :: c103 :: c104 :: c105 :: c106 :: c107 :: c108 :: c109 :: c110 :: c111 :: c112 :: c113 :: c114 :: c115 :: c116 :: c117 :: c118 :: c119 :: c120 :: c121 :: c122 :: c123 :: c124 :: c125 :: c126 :: c127 :: c128 :: c129 :: c130 :: c131 :: c132 :: c133 :: c134 :: c135 :: c136 :: c137 :: c138 :: c139 :: c140 :: c141 :: c142 :: c143 :: c144 :: c145 :: c146 :: c147 :: c148 :: c149 :: c150 :: c151 :: c152 :: c153 :: c154 :: c155 :: c156 :: c157 :: c158 :: c159 :: c160 :: c161 :: c162 :: c163 :: c164 :: c165 :: c166 :: c167 :: c168 :: c169 :: c170 :: c171 :: c172 :: c173 :: c174 :: c175 :: c176 :: c177 :: c178 :: c179 :: c180 :: c181 :: c182 :: c183 :: c184 :: c185 :: c186 :: c187 :: c188 :: .int .i64 0 :: c190 :: c191 :: c192 :: c193 :: c194 :: c195 :: c196 :: c197 :: c198 :: c199 :: c200 :: c201 :: c202 :: c203 :: c204 :: c205 :: c206 :: c207 :: c208 :: c209 :: c210 :: c211 :: c212 :: c213 :: c214 :: c215 :: c216 :: c217 :: c218 :: c219 :: c220 :: c221 :: c222 :: c223 :: c224 :: c225 :: c226 :: c227 :: c228 :: c229 :: c230 :: c231 :: c232 :: c233 :: c234 :: c235 :: c236 :: c237 :: c238 :: c239 :: c240 :: c241 :: c242 :: c243 :: c244 :: c245 :: c246 :: c247 :: c248 :: c249 :: c250 :: c251 :: c252 :: c253 :: c254 :: c255 :: c256 :: c257 :: c258 :: c259 :: c260 :: c261 :: c262 :: c263 :: c264 :: c265 :: c266 :: c267 :: c268 :: c269 :: c270 :: c271 :: c272 :: c273 :: c274 :: c275 :: c276 :: c277 :: c278 :: c279 :: c280 :: c281 :: c282 :: c283 :: c284 :: c285 :: c286 :: c287 :: c288 :: c289 :: c290 :: c291 :: c292 :: []), []⟩ w :=
  loop6 hs0 hws h5 h11 c0 c1 c2 c3 c4 c6 c7 c8 c9 c10 c12 c13 c14 c23 c24 c25 c26 c27 c28 c29 c30 c31 c32 c33 c34 c35 c36 c37 c38 c39 c40 c41 c42 c43 c44 c45 c46 c47 c48 c49 c50 c51 c52 c53 c54 c55 c56 c57 c58 c59 c60 c61 c62 c63 c64 c65 c66 c67 c68 c69 c70 c71 c72 c73 c74 c75 c76 c77 c78 c79 c80 c81 c82 c83 c84 c85 c86 c87 c88 c89 c90 c91 c92 c93 c94 c95 c96 c97 c98 c99 c100 c101 c102 c103 c104 c105 c106 c107 c108 c109 c110 c111 c112 c113 c114 c115 c116 c117 c118 c119 c120 c121 c122 c123 c124 c125 c126 c127 c128 c129 c130 c131 c132 c133 c134 c135 c136 c137 c138 c139 c140 c141 c142 c143 c144 c145 c146 c147 c148 c149 c150 c151 c152 c153 c154 c155 c156 c157 c158 c159 c160 c161 c162 c163 c164 c165 c166 c167 c168 c169 c170 c171 c172 c173 c174 c175 c176 c177 c178 c179 c180 c181 c182 c183 c184 c185 c186 c187 c188 c190 c191 c192 c193 c194 c195 c196 c197 c198 c199 c200 c201 c202 c203 c204 c205 c206 c207 c208 c209 c210 c211 c212 c213 c214 c215 c216 c217 c218 c219 c220 c221 c222 c223 c224 c225 c226 c227 c228 c229 c230 c231 c232 c233 c234 c235 c236 c237 c238 c239 c240 c241 c242 c243 c244 c245 c246 c247 c248 c249 c250 c251 c252 c253 c254 c255 c256 c257 c258 c259 c260 c261 c262 c263 c264 c265 c266 c267 c268 c269 c270 c271 c272 c273 c274 c275 c276 c277 c278 c279 c280 c281 c282 c283 c284 c285 c286 c287 c288 c289 c290 c291 c292 fun a' w'' hX => by
    unfold loop6X at hX
    obtain ⟨u23, hX⟩ := hX
    obtain ⟨u24, hX⟩ := hX
    obtain ⟨u25, hX⟩ := hX
    obtain ⟨u190, hX⟩ := hX
    obtain ⟨u191, hX⟩ := hX
    obtain ⟨u192, hX⟩ := hX
    obtain ⟨u193, hX⟩ := hX
    obtain ⟨u194, hX⟩ := hX
    obtain ⟨u195, hX⟩ := hX
    obtain ⟨u196, hX⟩ := hX
    obtain ⟨u197, hX⟩ := hX
    obtain ⟨u198, hX⟩ := hX
    obtain ⟨u199, hX⟩ := hX
    obtain ⟨u200, hX⟩ := hX
    obtain ⟨u201, hX⟩ := hX
    obtain ⟨u202, hX⟩ := hX
    obtain ⟨u203, hX⟩ := hX
    obtain ⟨u204, hX⟩ := hX
    obtain ⟨u205, hX⟩ := hX
    obtain ⟨u206, hX⟩ := hX
    obtain ⟨u207, hX⟩ := hX
    obtain ⟨u208, hX⟩ := hX
    obtain ⟨u209, hX⟩ := hX
    obtain ⟨u210, hX⟩ := hX
    obtain ⟨u211, hX⟩ := hX
    obtain ⟨u212, hX⟩ := hX
    obtain ⟨u213, hX⟩ := hX
    obtain ⟨u214, hX⟩ := hX
    obtain ⟨u215, hX⟩ := hX
    obtain ⟨u216, hX⟩ := hX
    obtain ⟨u217, hX⟩ := hX
    obtain ⟨u218, hX⟩ := hX
    obtain ⟨u219, hX⟩ := hX
    obtain ⟨u220, hX⟩ := hX
    obtain ⟨u221, hX⟩ := hX
    obtain ⟨u222, hX⟩ := hX
    obtain ⟨u223, hX⟩ := hX
    obtain ⟨u224, hX⟩ := hX
    obtain ⟨u225, hX⟩ := hX
    obtain ⟨u226, hX⟩ := hX
    obtain ⟨u227, hX⟩ := hX
    obtain ⟨u228, hX⟩ := hX
    obtain ⟨u229, hX⟩ := hX
    obtain ⟨u230, hX⟩ := hX
    obtain ⟨u231, hX⟩ := hX
    obtain ⟨u232, hX⟩ := hX
    obtain ⟨u233, hX⟩ := hX
    obtain ⟨u234, hX⟩ := hX
    obtain ⟨u235, hX⟩ := hX
    obtain ⟨u236, hX⟩ := hX
    obtain ⟨u237, hX⟩ := hX
    obtain ⟨u238, hX⟩ := hX
    obtain ⟨u239, hX⟩ := hX
    obtain ⟨u240, hX⟩ := hX
    obtain ⟨u241, hX⟩ := hX
    obtain ⟨u242, hX⟩ := hX
    obtain ⟨u243, hX⟩ := hX
    obtain ⟨u244, hX⟩ := hX
    obtain ⟨u245, hX⟩ := hX
    obtain ⟨u246, hX⟩ := hX
    obtain ⟨u247, hX⟩ := hX
    obtain ⟨u248, hX⟩ := hX
    obtain ⟨u249, hX⟩ := hX
    obtain ⟨u250, hX⟩ := hX
    obtain ⟨u251, hX⟩ := hX
    obtain ⟨hr, ha⟩ := hX
    rw [ha]
    exact hexit u23 u24 u25 u190 u191 u192 u193 u194 u195 u196 u197 u198 u199 u200 u201 u202 u203 u204 u205 u206 u207 u208 u209 u210 u211 u212 u213 u214 u215 u216 u217 u218 u219 u220 u221 u222 u223 u224 u225 u226 u227 u228 u229 u230 u231 u232 u233 u234 u235 u236 u237 u238 u239 u240 u241 u242 u243 u244 u245 u246 u247 u248 u249 u250 u251 w'' hr
end Go.Proofs.YtfbnnhailnbmiaaDoor
