/- HoldPlays: is a tick covered, a range met? HoldPlays: what the law's own list tells of covers, meets and any. HoldPlays: what the table tells is what the law's own list tells. Written by py/hold-plays.py. -/
import Derived.Test.YtphgkkdpdiiioaaHpNav
import Derived.Test.YtphgkkdpdiiioaaHoNam
import Derived.Test.YtphgkkdpdiiioaaHoCov
import Derived.Deep.Cut
import Derived.Deep.RegionHeld3
namespace Go.Proofs.Ytphgkkdpdiiioaa
open Go.RowKit Go.Shelf

set_option maxHeartbeats 16000000 in
set_option maxRecDepth 1000000 in
theorem hpR49 {W : World} {t : Int} {ds : List Deferred} {Q : Exit → Act → World → Prop} {q24 : Nat} {xa xb : Int} {C : Bool} 
    (c2' : W.cell? ⟨q24, 2, none⟩ = some (.int .i64 xa)) (c3' : W.cell? ⟨q24, 3, none⟩ = some (.int .i64 xb)) (c0 c1 c3 c4 c5 c6 c7 c8 c9 c10 c11 c12 c13 c14 c15 c16 c17 c18 c19 c21 c22 c23 c25 c26 c27 c28 c29 c30 c31 c32 c33 c34 c35 c36 c37 c38 c39 c40 c41 c42 c43 c44 c45 c46 c47 c48 c49 c50 c51 c52 c53 c54 c55 c56 c57 c58 c59 c60 c61 c62 c63 c64 c65 c66 c67 c68 c69 c70 c71 c72 c73 c74 c75 c76 c77 c78 c79 c80 c81 c82 c83 c84 c85 c86 c87 c88 c89 c90 c91 c92 c93 c94 c95 c96 c97 c98 c99 c100 c101 c102 c103 c104 c105 c106 c107 c108 c109 c110 c111 c112 c113 c114 c115 c116 c117 c118 c119 c120 c121 c122 c123 c124 c125 c126 c127 c128 c129 c130 c131 c132 c133 c134 c135 c136 c137 c138 c139 c140 c141 c142 c143 c144 c145 c146 c147 c148 c149 c150 c151 c152 c153 c154 c155 c156 c157 c158 c159 c160 c161 c162 c163 c164 c165 c166 c167 c168 c169 c170 c171 c172 c173 c174 c175 c176 c177 c178 c179 c180 c181 c182 c183 c184 c185 c186 c187 c188 c189 c190 c191 c192 c193 c194 c195 c196 c197 c198 c199 c200 c201 c202 c203 c204 c205 c206 c207 c208 c209 c210 c211 c212 c213 c214 c215 c216 c217 c218 c219 c220 c221 c222 c223 c224 c225 c226 c227 c228 c229 c230 c231 c232 c233 c234 c235 c236 c237 c238 c239 c240 c241 c242 c243 c244 c245 c246 c247 c248 c249 c250 c251 c252 c253 c254 c255 : Value)
    (HN : Hid (∀ (W' : World) (u160 u161 u162 u163 u164 u165 u166 u167 u168 u169 u170 u171 u172 u173 u174 : Value), W' = W → Q .normal ⟨List.toArray (c0 :: c1 :: .int .i64 t :: c3 :: c4 :: c5 :: c6 :: c7 :: c8 :: c9 :: c10 :: c11 :: c12 :: c13 :: c14 :: c15 :: c16 :: c17 :: c18 :: c19 :: .bool (C || (decide (xa ≤ t) && decide (t < xb))) :: c21 :: c22 :: c23 :: .pointer (some ⟨q24, 0, none⟩) :: c25 :: c26 :: c27 :: c28 :: c29 :: c30 :: c31 :: c32 :: c33 :: c34 :: c35 :: c36 :: c37 :: c38 :: c39 :: c40 :: c41 :: c42 :: c43 :: c44 :: c45 :: c46 :: c47 :: c48 :: c49 :: c50 :: c51 :: c52 :: c53 :: c54 :: c55 :: c56 :: c57 :: c58 :: c59 :: c60 :: c61 :: c62 :: c63 :: c64 :: c65 :: c66 :: c67 :: c68 :: c69 :: c70 :: c71 :: c72 :: c73 :: c74 :: c75 :: c76 :: c77 :: c78 :: c79 :: c80 :: c81 :: c82 :: c83 :: c84 :: c85 :: c86 :: c87 :: c88 :: c89 :: c90 :: c91 :: c92 :: c93 :: c94 :: c95 :: c96 :: c97 :: c98 :: c99 :: c100 :: c101 :: c102 :: c103 :: c104 :: c105 :: c106 :: c107 :: c108 :: c109 :: c110 :: c111 :: c112 :: c113 :: c114 :: c115 :: c116 :: c117 :: c118 :: c119 :: c120 :: c121 :: c122 :: c123 :: c124 :: c125 :: c126 :: c127 :: c128 :: c129 :: c130 :: c131 :: c132 :: c133 :: c134 :: c135 :: c136 :: c137 :: c138 :: c139 :: c140 :: c141 :: c142 :: c143 :: c144 :: c145 :: c146 :: c147 :: c148 :: c149 :: c150 :: c151 :: c152 :: c153 :: c154 :: c155 :: c156 :: c157 :: c158 :: c159 :: u160 :: u161 :: u162 :: u163 :: u164 :: u165 :: u166 :: u167 :: u168 :: u169 :: u170 :: u171 :: u172 :: u173 :: u174 :: c175 :: c176 :: c177 :: c178 :: c179 :: c180 :: c181 :: c182 :: c183 :: c184 :: c185 :: c186 :: c187 :: c188 :: c189 :: c190 :: c191 :: c192 :: c193 :: c194 :: c195 :: c196 :: c197 :: c198 :: c199 :: c200 :: c201 :: c202 :: c203 :: c204 :: c205 :: c206 :: c207 :: c208 :: c209 :: c210 :: c211 :: c212 :: c213 :: c214 :: c215 :: c216 :: c217 :: c218 :: c219 :: c220 :: c221 :: c222 :: c223 :: c224 :: c225 :: c226 :: c227 :: c228 :: c229 :: c230 :: c231 :: c232 :: c233 :: c234 :: c235 :: c236 :: c237 :: c238 :: c239 :: c240 :: c241 :: c242 :: c243 :: c244 :: c245 :: c246 :: c247 :: c248 :: c249 :: c250 :: c251 :: c252 :: c253 :: c254 :: c255 :: []), ds⟩ W')) : Code.wp Try.prog (hpReg 49) Q ⟨List.toArray (c0 :: c1 :: .int .i64 t :: c3 :: c4 :: c5 :: c6 :: c7 :: c8 :: c9 :: c10 :: c11 :: c12 :: c13 :: c14 :: c15 :: c16 :: c17 :: c18 :: c19 :: .bool C :: c21 :: c22 :: c23 :: .pointer (some ⟨q24, 0, none⟩) :: c25 :: c26 :: c27 :: c28 :: c29 :: c30 :: c31 :: c32 :: c33 :: c34 :: c35 :: c36 :: c37 :: c38 :: c39 :: c40 :: c41 :: c42 :: c43 :: c44 :: c45 :: c46 :: c47 :: c48 :: c49 :: c50 :: c51 :: c52 :: c53 :: c54 :: c55 :: c56 :: c57 :: c58 :: c59 :: c60 :: c61 :: c62 :: c63 :: c64 :: c65 :: c66 :: c67 :: c68 :: c69 :: c70 :: c71 :: c72 :: c73 :: c74 :: c75 :: c76 :: c77 :: c78 :: c79 :: c80 :: c81 :: c82 :: c83 :: c84 :: c85 :: c86 :: c87 :: c88 :: c89 :: c90 :: c91 :: c92 :: c93 :: c94 :: c95 :: c96 :: c97 :: c98 :: c99 :: c100 :: c101 :: c102 :: c103 :: c104 :: c105 :: c106 :: c107 :: c108 :: c109 :: c110 :: c111 :: c112 :: c113 :: c114 :: c115 :: c116 :: c117 :: c118 :: c119 :: c120 :: c121 :: c122 :: c123 :: c124 :: c125 :: c126 :: c127 :: c128 :: c129 :: c130 :: c131 :: c132 :: c133 :: c134 :: c135 :: c136 :: c137 :: c138 :: c139 :: c140 :: c141 :: c142 :: c143 :: c144 :: c145 :: c146 :: c147 :: c148 :: c149 :: c150 :: c151 :: c152 :: c153 :: c154 :: c155 :: c156 :: c157 :: c158 :: c159 :: c160 :: c161 :: c162 :: c163 :: c164 :: c165 :: c166 :: c167 :: c168 :: c169 :: c170 :: c171 :: c172 :: c173 :: c174 :: c175 :: c176 :: c177 :: c178 :: c179 :: c180 :: c181 :: c182 :: c183 :: c184 :: c185 :: c186 :: c187 :: c188 :: c189 :: c190 :: c191 :: c192 :: c193 :: c194 :: c195 :: c196 :: c197 :: c198 :: c199 :: c200 :: c201 :: c202 :: c203 :: c204 :: c205 :: c206 :: c207 :: c208 :: c209 :: c210 :: c211 :: c212 :: c213 :: c214 :: c215 :: c216 :: c217 :: c218 :: c219 :: c220 :: c221 :: c222 :: c223 :: c224 :: c225 :: c226 :: c227 :: c228 :: c229 :: c230 :: c231 :: c232 :: c233 :: c234 :: c235 :: c236 :: c237 :: c238 :: c239 :: c240 :: c241 :: c242 :: c243 :: c244 :: c245 :: c246 :: c247 :: c248 :: c249 :: c250 :: c251 :: c252 :: c253 :: c254 :: c255 :: []), ds⟩ W := by
  conv => arg 2; whnf
  obtain ⟨T1, t1⟩ : ∃ T, T = decide (xa ≤ t) := ⟨_, rfl⟩
  obtain ⟨T2, t2⟩ : ∃ T, T = decide (t < xb) := ⟨_, rfl⟩
  rw [← t1, ← t2] at HN
  replace t1 := t1.symm
  replace t2 := t2.symm
  cases C with
  | true =>
    go_wp2
    exact HN.out _ _ _ _ _ _ _ _ _ _ _ _ _ _ _ _ rfl
  | false =>
    cases T1 with
    | false =>
      go_wp2
      exact HN.out _ _ _ _ _ _ _ _ _ _ _ _ _ _ _ _ rfl
    | true =>
      go_wp2
      exact HN.out _ _ _ _ _ _ _ _ _ _ _ _ _ _ _ _ rfl
set_option maxHeartbeats 16000000 in
set_option maxRecDepth 1000000 in
theorem hpR51 {W : World} {ds : List Deferred} {Q : Exit → Act → World → Prop} {q7 q24 : Nat} {M xb rb : Int} {D : Bool} 
    (c3' : W.cell? ⟨q24, 3, none⟩ = some (.int .i64 xb)) (r1' : W.cell? ⟨q7, 1, none⟩ = some (.int .i64 rb)) (c0 c1 c2 c3 c4 c5 c6 c8 c9 c10 c11 c12 c13 c14 c15 c16 c17 c18 c19 c20 c22 c23 c26 c27 c28 c29 c30 c31 c32 c33 c34 c35 c36 c37 c38 c39 c40 c41 c42 c43 c44 c45 c46 c47 c48 c49 c50 c51 c52 c53 c54 c55 c56 c57 c58 c59 c60 c61 c62 c63 c64 c65 c66 c67 c68 c69 c70 c71 c72 c73 c74 c75 c76 c77 c78 c79 c80 c81 c82 c83 c84 c85 c86 c87 c88 c89 c90 c91 c92 c93 c94 c95 c96 c97 c98 c99 c100 c101 c102 c103 c104 c105 c106 c107 c108 c109 c110 c111 c112 c113 c114 c115 c116 c117 c118 c119 c120 c121 c122 c123 c124 c125 c126 c127 c128 c129 c130 c131 c132 c133 c134 c135 c136 c137 c138 c139 c140 c141 c142 c143 c144 c145 c146 c147 c148 c149 c150 c151 c152 c153 c154 c155 c156 c157 c158 c159 c160 c161 c162 c163 c164 c165 c166 c167 c168 c169 c170 c171 c172 c173 c174 c175 c176 c177 c178 c179 c180 c181 c182 c183 c184 c185 c186 c187 c188 c189 c190 c191 c192 c193 c194 c195 c196 c197 c198 c199 c200 c201 c202 c203 c204 c205 c206 c207 c208 c209 c210 c211 c212 c213 c214 c215 c216 c217 c218 c219 c220 c221 c222 c223 c224 c225 c226 c227 c228 c229 c230 c231 c232 c233 c234 c235 c236 c237 c238 c239 c240 c241 c242 c243 c244 c245 c246 c247 c248 c249 c250 c251 c252 c253 c254 c255 : Value)
    (HN : Hid (∀ (W' : World) (u181 u182 u183 u184 u185 u186 u187 u188 u189 u190 u191 u192 u193 u194 : Value), W' = W → Q .normal ⟨List.toArray (c0 :: c1 :: c2 :: c3 :: c4 :: c5 :: c6 :: .pointer (some ⟨q7, 0, none⟩) :: c8 :: c9 :: c10 :: c11 :: c12 :: c13 :: c14 :: c15 :: c16 :: c17 :: c18 :: c19 :: c20 :: .bool (D || (decide (M < xb) && decide (M < rb))) :: c22 :: c23 :: .pointer (some ⟨q24, 0, none⟩) :: .int .i64 M :: c26 :: c27 :: c28 :: c29 :: c30 :: c31 :: c32 :: c33 :: c34 :: c35 :: c36 :: c37 :: c38 :: c39 :: c40 :: c41 :: c42 :: c43 :: c44 :: c45 :: c46 :: c47 :: c48 :: c49 :: c50 :: c51 :: c52 :: c53 :: c54 :: c55 :: c56 :: c57 :: c58 :: c59 :: c60 :: c61 :: c62 :: c63 :: c64 :: c65 :: c66 :: c67 :: c68 :: c69 :: c70 :: c71 :: c72 :: c73 :: c74 :: c75 :: c76 :: c77 :: c78 :: c79 :: c80 :: c81 :: c82 :: c83 :: c84 :: c85 :: c86 :: c87 :: c88 :: c89 :: c90 :: c91 :: c92 :: c93 :: c94 :: c95 :: c96 :: c97 :: c98 :: c99 :: c100 :: c101 :: c102 :: c103 :: c104 :: c105 :: c106 :: c107 :: c108 :: c109 :: c110 :: c111 :: c112 :: c113 :: c114 :: c115 :: c116 :: c117 :: c118 :: c119 :: c120 :: c121 :: c122 :: c123 :: c124 :: c125 :: c126 :: c127 :: c128 :: c129 :: c130 :: c131 :: c132 :: c133 :: c134 :: c135 :: c136 :: c137 :: c138 :: c139 :: c140 :: c141 :: c142 :: c143 :: c144 :: c145 :: c146 :: c147 :: c148 :: c149 :: c150 :: c151 :: c152 :: c153 :: c154 :: c155 :: c156 :: c157 :: c158 :: c159 :: c160 :: c161 :: c162 :: c163 :: c164 :: c165 :: c166 :: c167 :: c168 :: c169 :: c170 :: c171 :: c172 :: c173 :: c174 :: c175 :: c176 :: c177 :: c178 :: c179 :: c180 :: u181 :: u182 :: u183 :: u184 :: u185 :: u186 :: u187 :: u188 :: u189 :: u190 :: u191 :: u192 :: u193 :: u194 :: c195 :: c196 :: c197 :: c198 :: c199 :: c200 :: c201 :: c202 :: c203 :: c204 :: c205 :: c206 :: c207 :: c208 :: c209 :: c210 :: c211 :: c212 :: c213 :: c214 :: c215 :: c216 :: c217 :: c218 :: c219 :: c220 :: c221 :: c222 :: c223 :: c224 :: c225 :: c226 :: c227 :: c228 :: c229 :: c230 :: c231 :: c232 :: c233 :: c234 :: c235 :: c236 :: c237 :: c238 :: c239 :: c240 :: c241 :: c242 :: c243 :: c244 :: c245 :: c246 :: c247 :: c248 :: c249 :: c250 :: c251 :: c252 :: c253 :: c254 :: c255 :: []), ds⟩ W')) : Code.wp Try.prog (hpReg 51) Q ⟨List.toArray (c0 :: c1 :: c2 :: c3 :: c4 :: c5 :: c6 :: .pointer (some ⟨q7, 0, none⟩) :: c8 :: c9 :: c10 :: c11 :: c12 :: c13 :: c14 :: c15 :: c16 :: c17 :: c18 :: c19 :: c20 :: .bool D :: c22 :: c23 :: .pointer (some ⟨q24, 0, none⟩) :: .int .i64 M :: c26 :: c27 :: c28 :: c29 :: c30 :: c31 :: c32 :: c33 :: c34 :: c35 :: c36 :: c37 :: c38 :: c39 :: c40 :: c41 :: c42 :: c43 :: c44 :: c45 :: c46 :: c47 :: c48 :: c49 :: c50 :: c51 :: c52 :: c53 :: c54 :: c55 :: c56 :: c57 :: c58 :: c59 :: c60 :: c61 :: c62 :: c63 :: c64 :: c65 :: c66 :: c67 :: c68 :: c69 :: c70 :: c71 :: c72 :: c73 :: c74 :: c75 :: c76 :: c77 :: c78 :: c79 :: c80 :: c81 :: c82 :: c83 :: c84 :: c85 :: c86 :: c87 :: c88 :: c89 :: c90 :: c91 :: c92 :: c93 :: c94 :: c95 :: c96 :: c97 :: c98 :: c99 :: c100 :: c101 :: c102 :: c103 :: c104 :: c105 :: c106 :: c107 :: c108 :: c109 :: c110 :: c111 :: c112 :: c113 :: c114 :: c115 :: c116 :: c117 :: c118 :: c119 :: c120 :: c121 :: c122 :: c123 :: c124 :: c125 :: c126 :: c127 :: c128 :: c129 :: c130 :: c131 :: c132 :: c133 :: c134 :: c135 :: c136 :: c137 :: c138 :: c139 :: c140 :: c141 :: c142 :: c143 :: c144 :: c145 :: c146 :: c147 :: c148 :: c149 :: c150 :: c151 :: c152 :: c153 :: c154 :: c155 :: c156 :: c157 :: c158 :: c159 :: c160 :: c161 :: c162 :: c163 :: c164 :: c165 :: c166 :: c167 :: c168 :: c169 :: c170 :: c171 :: c172 :: c173 :: c174 :: c175 :: c176 :: c177 :: c178 :: c179 :: c180 :: c181 :: c182 :: c183 :: c184 :: c185 :: c186 :: c187 :: c188 :: c189 :: c190 :: c191 :: c192 :: c193 :: c194 :: c195 :: c196 :: c197 :: c198 :: c199 :: c200 :: c201 :: c202 :: c203 :: c204 :: c205 :: c206 :: c207 :: c208 :: c209 :: c210 :: c211 :: c212 :: c213 :: c214 :: c215 :: c216 :: c217 :: c218 :: c219 :: c220 :: c221 :: c222 :: c223 :: c224 :: c225 :: c226 :: c227 :: c228 :: c229 :: c230 :: c231 :: c232 :: c233 :: c234 :: c235 :: c236 :: c237 :: c238 :: c239 :: c240 :: c241 :: c242 :: c243 :: c244 :: c245 :: c246 :: c247 :: c248 :: c249 :: c250 :: c251 :: c252 :: c253 :: c254 :: c255 :: []), ds⟩ W := by
  conv => arg 2; whnf
  obtain ⟨T1, t1⟩ : ∃ T, T = decide (M < xb) := ⟨_, rfl⟩
  obtain ⟨T2, t2⟩ : ∃ T, T = decide (M < rb) := ⟨_, rfl⟩
  rw [← t1, ← t2] at HN
  replace t1 := t1.symm
  replace t2 := t2.symm
  cases D with
  | true =>
    go_wp2
    exact HN.out _ _ _ _ _ _ _ _ _ _ _ _ _ _ _ rfl
  | false =>
    cases T1 with
    | false =>
      go_wp2
      exact HN.out _ _ _ _ _ _ _ _ _ _ _ _ _ _ _ rfl
    | true =>
      go_wp2
      exact HN.out _ _ _ _ _ _ _ _ _ _ _ _ _ _ _ rfl
theorem some_snoc {m : List Hld} {k : Nat} {y : Hld} (hy : m[k]? = some y) (s : ByteArray) (f : Int → Int → Bool) : someH (m.take (k + 1)) s f = (someH (m.take k) s f || (ofH s y && f y.a y.b)) := by
  rw [List.take_add_one, hy]
  unfold someH
  simp [List.any_append]
set_option maxHeartbeats 16000000 in
set_option maxRecDepth 1000000 in
theorem hpCov {w W : World} {q7 q8 q10 p : Nat} {ra rb t : Int} {s : ByteArray} {b : Option Nat} {m : List Hld} {v : Value} {ds : List Deferred} {Q : Exit → Act → World → Prop} {va : Option Addr} {vc : Nat}
    (HP : Hid (PSt w q7 q8 q10 p ra rb b m m v ds W)) (HV : Hid (v = .slice va m.length vc)) (c0 c3 c4 c5 c6 c11 c12 c13 c14 c15 c16 c17 c18 c19 c23 c24 c25 c26 c27 c28 c29 c30 c31 c32 c33 c34 c35 c36 c37 c38 c39 c40 c41 c42 c43 c44 c45 c46 c47 c48 c49 c50 c51 c52 c53 c54 c55 c56 c57 c58 c59 c60 c61 c62 c63 c64 c65 c66 c67 c68 c69 c70 c71 c72 c73 c74 c75 c76 c77 c78 c79 c80 c81 c82 c83 c84 c85 c86 c87 c88 c89 c90 c91 c92 c93 c94 c95 c96 c97 c98 c99 c100 c101 c102 c103 c104 c105 c106 c107 c108 c109 c110 c111 c112 c113 c114 c115 c116 c117 c118 c119 c120 c121 c122 c123 c124 c125 c126 c127 c128 c129 c130 c131 c132 c133 c134 c135 c136 c137 c138 c139 c140 c141 c142 c143 c144 c148 c149 c150 c151 c152 c153 c154 c155 c156 c157 c158 c159 c160 c161 c162 c163 c164 c165 c166 c167 c168 c169 c170 c171 c172 c173 c174 c175 c176 c177 c178 c179 c180 c181 c182 c183 c184 c185 c186 c187 c188 c189 c190 c191 c192 c193 c194 c195 c196 c197 c198 c199 c200 c201 c202 c203 c204 c205 c206 c207 c208 c209 c210 c211 c212 c213 c214 c215 c216 c217 c218 c219 c220 c221 c222 c223 c224 c225 c226 c227 c228 c229 c230 c231 c232 c233 c234 c235 c236 c237 c238 c239 c240 c241 c242 c243 c244 c245 c246 c247 c248 c249 c250 c251 c252 c253 c254 c255 : Value)
    (HN : Hid (∀ (W' : World) (u24 u25 u147 u148 u149 u150 u151 u152 u153 u154 u155 u156 u157 u158 u159 u160 u161 u162 u163 u164 u165 u166 u167 u168 u169 u170 u171 u172 u173 u174 u175 u176 u177 u178 u179 u180 u181 u182 u183 u184 u185 u186 u187 u188 u189 u190 u191 u192 u193 u194 u195 : Value), PSt w q7 q8 q10 p ra rb b m m v ds W' → Q .normal ⟨List.toArray (c0 :: .string s :: .int .i64 t :: c3 :: c4 :: c5 :: c6 :: .pointer (some ⟨q7, 0, none⟩) :: .pointer (some ⟨q8, 0, none⟩) :: .pointer (some ⟨p, 0, none⟩) :: .pointer (some ⟨q10, 0, none⟩) :: c11 :: c12 :: c13 :: c14 :: c15 :: c16 :: c17 :: c18 :: c19 :: .bool (someH m s fun a b => inR a b t) :: .bool (someH m s fun a b => meetsR a b ra rb) :: .bool (someH m s fun _ _ => true) :: c23 :: u24 :: u25 :: c26 :: c27 :: c28 :: c29 :: c30 :: c31 :: c32 :: c33 :: c34 :: c35 :: c36 :: c37 :: c38 :: c39 :: c40 :: c41 :: c42 :: c43 :: c44 :: c45 :: c46 :: c47 :: c48 :: c49 :: c50 :: c51 :: c52 :: c53 :: c54 :: c55 :: c56 :: c57 :: c58 :: c59 :: c60 :: c61 :: c62 :: c63 :: c64 :: c65 :: c66 :: c67 :: c68 :: c69 :: c70 :: c71 :: c72 :: c73 :: c74 :: c75 :: c76 :: c77 :: c78 :: c79 :: c80 :: c81 :: c82 :: c83 :: c84 :: c85 :: c86 :: c87 :: c88 :: c89 :: c90 :: c91 :: c92 :: c93 :: c94 :: c95 :: c96 :: c97 :: c98 :: c99 :: c100 :: c101 :: c102 :: c103 :: c104 :: c105 :: c106 :: c107 :: c108 :: c109 :: c110 :: c111 :: c112 :: c113 :: c114 :: c115 :: c116 :: c117 :: c118 :: c119 :: c120 :: c121 :: c122 :: c123 :: c124 :: c125 :: c126 :: c127 :: c128 :: c129 :: c130 :: c131 :: c132 :: c133 :: c134 :: c135 :: c136 :: c137 :: c138 :: c139 :: c140 :: c141 :: c142 :: c143 :: c144 :: .slice va m.length vc :: .int .i64 (m.length : Int) :: u147 :: u148 :: u149 :: u150 :: u151 :: u152 :: u153 :: u154 :: u155 :: u156 :: u157 :: u158 :: u159 :: u160 :: u161 :: u162 :: u163 :: u164 :: u165 :: u166 :: u167 :: u168 :: u169 :: u170 :: u171 :: u172 :: u173 :: u174 :: u175 :: u176 :: u177 :: u178 :: u179 :: u180 :: u181 :: u182 :: u183 :: u184 :: u185 :: u186 :: u187 :: u188 :: u189 :: u190 :: u191 :: u192 :: u193 :: u194 :: u195 :: c196 :: c197 :: c198 :: c199 :: c200 :: c201 :: c202 :: c203 :: c204 :: c205 :: c206 :: c207 :: c208 :: c209 :: c210 :: c211 :: c212 :: c213 :: c214 :: c215 :: c216 :: c217 :: c218 :: c219 :: c220 :: c221 :: c222 :: c223 :: c224 :: c225 :: c226 :: c227 :: c228 :: c229 :: c230 :: c231 :: c232 :: c233 :: c234 :: c235 :: c236 :: c237 :: c238 :: c239 :: c240 :: c241 :: c242 :: c243 :: c244 :: c245 :: c246 :: c247 :: c248 :: c249 :: c250 :: c251 :: c252 :: c253 :: c254 :: c255 :: []), ds⟩ W')) : Code.wp Try.prog (hpBlk 6) Q ⟨List.toArray (c0 :: .string s :: .int .i64 t :: c3 :: c4 :: c5 :: c6 :: .pointer (some ⟨q7, 0, none⟩) :: .pointer (some ⟨q8, 0, none⟩) :: .pointer (some ⟨p, 0, none⟩) :: .pointer (some ⟨q10, 0, none⟩) :: c11 :: c12 :: c13 :: c14 :: c15 :: c16 :: c17 :: c18 :: c19 :: .bool false :: .bool false :: .bool false :: c23 :: c24 :: c25 :: c26 :: c27 :: c28 :: c29 :: c30 :: c31 :: c32 :: c33 :: c34 :: c35 :: c36 :: c37 :: c38 :: c39 :: c40 :: c41 :: c42 :: c43 :: c44 :: c45 :: c46 :: c47 :: c48 :: c49 :: c50 :: c51 :: c52 :: c53 :: c54 :: c55 :: c56 :: c57 :: c58 :: c59 :: c60 :: c61 :: c62 :: c63 :: c64 :: c65 :: c66 :: c67 :: c68 :: c69 :: c70 :: c71 :: c72 :: c73 :: c74 :: c75 :: c76 :: c77 :: c78 :: c79 :: c80 :: c81 :: c82 :: c83 :: c84 :: c85 :: c86 :: c87 :: c88 :: c89 :: c90 :: c91 :: c92 :: c93 :: c94 :: c95 :: c96 :: c97 :: c98 :: c99 :: c100 :: c101 :: c102 :: c103 :: c104 :: c105 :: c106 :: c107 :: c108 :: c109 :: c110 :: c111 :: c112 :: c113 :: c114 :: c115 :: c116 :: c117 :: c118 :: c119 :: c120 :: c121 :: c122 :: c123 :: c124 :: c125 :: c126 :: c127 :: c128 :: c129 :: c130 :: c131 :: c132 :: c133 :: c134 :: c135 :: c136 :: c137 :: c138 :: c139 :: c140 :: c141 :: c142 :: c143 :: c144 :: .slice va m.length vc :: .int .i64 (m.length : Int) :: .int .i64 0 :: c148 :: c149 :: c150 :: c151 :: c152 :: c153 :: c154 :: c155 :: c156 :: c157 :: c158 :: c159 :: c160 :: c161 :: c162 :: c163 :: c164 :: c165 :: c166 :: c167 :: c168 :: c169 :: c170 :: c171 :: c172 :: c173 :: c174 :: c175 :: c176 :: c177 :: c178 :: c179 :: c180 :: c181 :: c182 :: c183 :: c184 :: c185 :: c186 :: c187 :: c188 :: c189 :: c190 :: c191 :: c192 :: c193 :: c194 :: c195 :: c196 :: c197 :: c198 :: c199 :: c200 :: c201 :: c202 :: c203 :: c204 :: c205 :: c206 :: c207 :: c208 :: c209 :: c210 :: c211 :: c212 :: c213 :: c214 :: c215 :: c216 :: c217 :: c218 :: c219 :: c220 :: c221 :: c222 :: c223 :: c224 :: c225 :: c226 :: c227 :: c228 :: c229 :: c230 :: c231 :: c232 :: c233 :: c234 :: c235 :: c236 :: c237 :: c238 :: c239 :: c240 :: c241 :: c242 :: c243 :: c244 :: c245 :: c246 :: c247 :: c248 :: c249 :: c250 :: c251 :: c252 :: c253 :: c254 :: c255 :: []), ds⟩ W := by
  conv => arg 2; whnf
  have hL16 : m.length ≤ 16 := HP.out.tst.tab.few
  go_wp2_with fail
  go_loopw [20, 21, 22, 147] (fun c me an i wr => ∃ k : Nat, k ≤ m.length ∧ i = .int .i64 (k : Int) ∧ c = .bool (someH (m.take k) s fun a b => inR a b t) ∧ me = .bool (someH (m.take k) s fun a b => meetsR a b ra rb) ∧ an = .bool (someH (m.take k) s fun _ _ => true) ∧ Below W.heap.size W wr) (fun _ _ _ i _ => m.length - (intOf i).toNat)
  case atStart => exact ⟨0, Nat.zero_le _, rfl, rfl, rfl, rfl, Below.refl _ _⟩
  case round =>
    obtain ⟨k, hk, rfl, rfl, rfl, rfl, hb⟩ := hrel
    have HB2 := Lib.hid hb
    have HP2 := Lib.hid (HP.out.beyond hb)
    clear hb
    by_cases hlt : k < m.length
    · obtain ⟨a, bb, off, c, ev, ea, hcells⟩ := HP2.out.row.lies
      have e2 := HV.out
      rw [ev] at e2
      injection e2 with e2 _ e3
      have ea := ea (by rintro rfl; simp at hlt)
      rw [e2] at ea
      subst ea
      obtain ⟨y, hy⟩ : ∃ y, m[k]? = some y := ⟨_, List.getElem?_eq_getElem hlt⟩
      have x0 := hcells k y hy 0 _ rfl
      rw [Nat.add_zero] at x0
      have x1 := hcells k y hy 1 _ rfl
      have x2 := hcells k y hy 2 _ rfl
      have x3 := hcells k y hy 3 _ rfl
      have HTK : Hid (∀ f : Int → Int → Bool, someH (m.take (k + 1)) s f = (someH (m.take k) s f || (ofH s y && f y.a y.b))) := Lib.hid fun f => some_snoc hy s f
      have HC := Lib.hid (HTK.out fun a b => inR a b t)
      have HM := Lib.hid (HTK.out fun a b => meetsR a b ra rb)
      have HA := Lib.hid (HTK.out fun _ _ => true)
      have HB3 : Hid (Below W.heap.size W (wr.alloc (.cells #[.string y.name, .string y.ser, .int .i64 y.a, .int .i64 y.b] 30))) := Lib.hid (HB2.out.alloc HB2.out.size _)
      clear hcells ev e2 e3 hy HTK
      obtain ⟨r0, r1, -, -⟩ := (HP2.out.nst.rg.old (.cells #[.string y.name, .string y.ser, .int .i64 y.a, .int .i64 y.b] 30)).cells
      obtain ⟨nm, se, xa, xb⟩ := y
      dsimp only at *
      have te := size_empty se
      have tq := text_beq se s
      have HOF : Hid (ofH s ⟨nm, se, xa, xb⟩ = (decide (se.size = 0) || decide (se = s))) := Lib.hid rfl
      obtain ⟨E, hE⟩ : ∃ E, E = decide (se.size = 0) := ⟨_, rfl⟩
      obtain ⟨QQ, hQ⟩ : ∃ Q, Q = decide (se = s) := ⟨_, rfl⟩
      obtain ⟨O, hO⟩ : ∃ O, O = ofH s ⟨nm, se, xa, xb⟩ := ⟨_, rfl⟩
      obtain ⟨C, hC⟩ : ∃ C, C = someH (m.take k) s fun a b => inR a b t := ⟨_, rfl⟩
      obtain ⟨D, hD⟩ : ∃ D, D = someH (m.take k) s fun a b => meetsR a b ra rb := ⟨_, rfl⟩
      obtain ⟨A, hA⟩ : ∃ A, A = someH (m.take k) s fun _ _ => true := ⟨_, rfl⟩
      have HIN : Hid (inR xa xb t = (decide (xa ≤ t) && decide (t < xb))) := Lib.hid rfl
      have HME : Hid (meetsR xa xb ra rb = (decide (max xa ra < xb) && decide (max xa ra < rb))) := Lib.hid (by unfold meetsR; rw [Bool.eq_iff_iff]; simp only [decide_eq_true_eq, Bool.and_eq_true]; omega)
      rw [← hE] at te HOF
      rw [← hQ] at tq HOF
      rw [← hO] at HOF HC HM HA
      rw [← hC, HIN.out] at HC
      rw [← hD, HME.out] at HM
      rw [← hA] at HA
      rw [← hC, ← hD, ← hA]
      rw [HOF.out] at HC HM HA
      clear hE hQ hO HIN HME HOF hC hD hA
      have Y2 : Hid ((wr.alloc (.cells #[.string nm, .string se, .int .i64 xa, .int .i64 xb] 30)).cell? ⟨wr.heap.size, 2, none⟩ = some (.int .i64 xa)) := Lib.hid ((show Arr (wr.alloc (.cells #[.string nm, .string se, .int .i64 xa, .int .i64 xb] 30)) wr.heap.size 30 [.string nm, .string se, .int .i64 xa, .int .i64 xb] from heap_alloc_new wr _).cell rfl)
      have Y3 : Hid ((wr.alloc (.cells #[.string nm, .string se, .int .i64 xa, .int .i64 xb] 30)).cell? ⟨wr.heap.size, 3, none⟩ = some (.int .i64 xb)) := Lib.hid ((show Arr (wr.alloc (.cells #[.string nm, .string se, .int .i64 xa, .int .i64 xb] 30)) wr.heap.size 30 [.string nm, .string se, .int .i64 xa, .int .i64 xb] from heap_alloc_new wr _).cell rfl)
      have Z1 : Hid ((wr.alloc (.cells #[.string nm, .string se, .int .i64 xa, .int .i64 xb] 30)).cell? ⟨q7, 1, none⟩ = some (.int .i64 rb)) := Lib.hid r1
      cases E with
      | false =>
        cases QQ with
        | false =>
          go_wp2
          go_roundw
          case rel => exact ⟨k + 1, by omega, by go_num, by rw [HC.out]; simp, by rw [HM.out]; simp, by rw [HA.out]; simp, HB3.out⟩
          case measure => simp [intOf]; omega
        | true =>
          go_upto_region 49 with fail
          refine hpR49 (xa := xa) (xb := xb) (C := C) (q24 := wr.heap.size) Y2.out Y3.out _ _ _ _ _ _ _ _ _ _ _ _ _ _ _ _ _ _ _ _ _ _ _ _ _ _ _ _ _ _ _ _ _ _ _ _ _ _ _ _ _ _ _ _ _ _ _ _ _ _ _ _ _ _ _ _ _ _ _ _ _ _ _ _ _ _ _ _ _ _ _ _ _ _ _ _ _ _ _ _ _ _ _ _ _ _ _ _ _ _ _ _ _ _ _ _ _ _ _ _ _ _ _ _ _ _ _ _ _ _ _ _ _ _ _ _ _ _ _ _ _ _ _ _ _ _ _ _ _ _ _ _ _ _ _ _ _ _ _ _ _ _ _ _ _ _ _ _ _ _ _ _ _ _ _ _ _ _ _ _ _ _ _ _ _ _ _ _ _ _ _ _ _ _ _ _ _ _ _ _ _ _ _ _ _ _ _ _ _ _ _ _ _ _ _ _ _ _ _ _ _ _ _ _ _ _ _ _ _ _ _ _ _ _ _ _ _ _ _ _ _ _ _ _ _ _ _ _ _ _ _ _ _ _ _ _ _ _ _ _ _ _ _ _ _ _ _ _ _ _ _ _ _ ?_
          refine Lib.hid ?_
          intro W5 u160 u161 u162 u163 u164 u165 u166 u167 u168 u169 u170 u171 u172 u173 u174 hw
          subst hw
          go_upto_region 51 with fail
          refine hpR51 (M := max xa ra) (xb := xb) (rb := rb) (q7 := q7) (D := D) (q24 := wr.heap.size) Y3.out Z1.out _ _ _ _ _ _ _ _ _ _ _ _ _ _ _ _ _ _ _ _ _ _ _ _ _ _ _ _ _ _ _ _ _ _ _ _ _ _ _ _ _ _ _ _ _ _ _ _ _ _ _ _ _ _ _ _ _ _ _ _ _ _ _ _ _ _ _ _ _ _ _ _ _ _ _ _ _ _ _ _ _ _ _ _ _ _ _ _ _ _ _ _ _ _ _ _ _ _ _ _ _ _ _ _ _ _ _ _ _ _ _ _ _ _ _ _ _ _ _ _ _ _ _ _ _ _ _ _ _ _ _ _ _ _ _ _ _ _ _ _ _ _ _ _ _ _ _ _ _ _ _ _ _ _ _ _ _ _ _ _ _ _ _ _ _ _ _ _ _ _ _ _ _ _ _ _ _ _ _ _ _ _ _ _ _ _ _ _ _ _ _ _ _ _ _ _ _ _ _ _ _ _ _ _ _ _ _ _ _ _ _ _ _ _ _ _ _ _ _ _ _ _ _ _ _ _ _ _ _ _ _ _ _ _ _ _ _ _ _ _ _ _ _ _ _ _ _ _ _ _ _ _ ?_
          refine Lib.hid ?_
          intro W6 u181 u182 u183 u184 u185 u186 u187 u188 u189 u190 u191 u192 u193 u194 hw
          subst hw
          go_wp2
          go_roundw
          case rel => exact ⟨k + 1, by omega, by go_num, by rw [HC.out]; rfl, by rw [HM.out]; rfl, by rw [HA.out]; simp, HB3.out⟩
          case measure => simp [intOf]; omega
      | true =>
        go_upto_region 49 with fail
        refine hpR49 (xa := xa) (xb := xb) (C := C) (q24 := wr.heap.size) Y2.out Y3.out _ _ _ _ _ _ _ _ _ _ _ _ _ _ _ _ _ _ _ _ _ _ _ _ _ _ _ _ _ _ _ _ _ _ _ _ _ _ _ _ _ _ _ _ _ _ _ _ _ _ _ _ _ _ _ _ _ _ _ _ _ _ _ _ _ _ _ _ _ _ _ _ _ _ _ _ _ _ _ _ _ _ _ _ _ _ _ _ _ _ _ _ _ _ _ _ _ _ _ _ _ _ _ _ _ _ _ _ _ _ _ _ _ _ _ _ _ _ _ _ _ _ _ _ _ _ _ _ _ _ _ _ _ _ _ _ _ _ _ _ _ _ _ _ _ _ _ _ _ _ _ _ _ _ _ _ _ _ _ _ _ _ _ _ _ _ _ _ _ _ _ _ _ _ _ _ _ _ _ _ _ _ _ _ _ _ _ _ _ _ _ _ _ _ _ _ _ _ _ _ _ _ _ _ _ _ _ _ _ _ _ _ _ _ _ _ _ _ _ _ _ _ _ _ _ _ _ _ _ _ _ _ _ _ _ _ _ _ _ _ _ _ _ _ _ _ _ _ _ _ _ _ _ ?_
        refine Lib.hid ?_
        intro W5 u160 u161 u162 u163 u164 u165 u166 u167 u168 u169 u170 u171 u172 u173 u174 hw
        subst hw
        go_upto_region 51 with fail
        refine hpR51 (M := max xa ra) (xb := xb) (rb := rb) (q7 := q7) (D := D) (q24 := wr.heap.size) Y3.out Z1.out _ _ _ _ _ _ _ _ _ _ _ _ _ _ _ _ _ _ _ _ _ _ _ _ _ _ _ _ _ _ _ _ _ _ _ _ _ _ _ _ _ _ _ _ _ _ _ _ _ _ _ _ _ _ _ _ _ _ _ _ _ _ _ _ _ _ _ _ _ _ _ _ _ _ _ _ _ _ _ _ _ _ _ _ _ _ _ _ _ _ _ _ _ _ _ _ _ _ _ _ _ _ _ _ _ _ _ _ _ _ _ _ _ _ _ _ _ _ _ _ _ _ _ _ _ _ _ _ _ _ _ _ _ _ _ _ _ _ _ _ _ _ _ _ _ _ _ _ _ _ _ _ _ _ _ _ _ _ _ _ _ _ _ _ _ _ _ _ _ _ _ _ _ _ _ _ _ _ _ _ _ _ _ _ _ _ _ _ _ _ _ _ _ _ _ _ _ _ _ _ _ _ _ _ _ _ _ _ _ _ _ _ _ _ _ _ _ _ _ _ _ _ _ _ _ _ _ _ _ _ _ _ _ _ _ _ _ _ _ _ _ _ _ _ _ _ _ _ _ _ _ _ ?_
        refine Lib.hid ?_
        intro W6 u181 u182 u183 u184 u185 u186 u187 u188 u189 u190 u191 u192 u193 u194 hw
        subst hw
        go_wp2
        go_roundw
        case rel => exact ⟨k + 1, by omega, by go_num, by rw [HC.out]; rfl, by rw [HM.out]; rfl, by rw [HA.out]; simp, HB3.out⟩
        case measure => simp [intOf]; omega
    · obtain rfl : k = m.length := by omega
      rw [List.take_length]
      go_wp2
      exact HN.out _ _ _ _ _ _ _ _ _ _ _ _ _ _ _ _ _ _ _ _ _ _ _ _ _ _ _ _ _ _ _ _ _ _ _ _ _ _ _ _ _ _ _ _ _ _ _ _ _ _ _ _ HP2.out
set_option maxHeartbeats 16000000 in
set_option maxRecDepth 1000000 in
theorem hpAsk {w W : World} {q7 q8 q10 p : Nat} {ra rb t : Int} {s : ByteArray} {b : Option Nat} {m : List Hld} {v : Value} {ds : List Deferred} {Q : Exit → Act → World → Prop} {va : Option Addr} {vc : Nat}
    (HP : Hid (PSt w q7 q8 q10 p ra rb b m m v ds W)) (HV : Hid (v = .slice va m.length vc)) (c0 c3 c4 c5 c6 c11 c12 c13 c14 c15 c16 c17 c18 c19 c23 c24 c25 c26 c27 c28 c29 c30 c31 c32 c33 c34 c35 c36 c37 c38 c39 c40 c41 c42 c43 c44 c45 c46 c47 c48 c49 c50 c51 c52 c53 c54 c55 c56 c57 c58 c59 c60 c61 c62 c63 c64 c65 c66 c67 c68 c69 c70 c71 c72 c73 c74 c75 c76 c77 c78 c79 c80 c81 c82 c83 c84 c85 c86 c87 c88 c89 c90 c91 c92 c93 c94 c95 c96 c97 c98 c99 c100 c101 c102 c103 c104 c105 c106 c107 c108 c109 c110 c111 c112 c113 c114 c115 c116 c117 c118 c119 c120 c121 c122 c123 c124 c125 c126 c127 c128 c129 c130 c131 c132 c133 c134 c135 c136 c137 c138 c139 c140 c141 c142 c143 c144 c145 c146 c147 c148 c149 c150 c151 c152 c153 c154 c155 c156 c157 c158 c159 c160 c161 c162 c163 c164 c165 c166 c167 c168 c169 c170 c171 c172 c173 c174 c175 c176 c177 c178 c179 c180 c181 c182 c183 c184 c185 c186 c187 c188 c189 c190 c191 c192 c193 c194 c195 c196 c197 c198 c199 c200 c201 c202 c203 c204 c205 c206 c207 c208 c209 c210 c211 c212 c213 c214 c215 c216 c217 c218 c219 c220 c221 c222 c223 c224 c225 c226 c227 c228 c229 c230 c231 c232 c233 c234 c235 c236 c237 c238 c239 c240 c241 c242 c243 c244 c245 c246 c247 c248 c249 c250 c251 c252 c253 c254 c255 : Value)
    (HN : Hid (∀ (W' : World) (u196 u197 u198 u199 u200 u201 u202 u203 u204 u205 u206 u207 u208 u209 u210 u211 u212 u213 u214 u215 u216 u217 u218 u219 u220 u221 u222 : Value), PSt w q7 q8 q10 p ra rb b m m v ds W' → Q .normal ⟨List.toArray (c0 :: .string s :: .int .i64 t :: c3 :: c4 :: c5 :: c6 :: .pointer (some ⟨q7, 0, none⟩) :: .pointer (some ⟨q8, 0, none⟩) :: .pointer (some ⟨p, 0, none⟩) :: .pointer (some ⟨q10, 0, none⟩) :: c11 :: c12 :: c13 :: c14 :: c15 :: c16 :: c17 :: c18 :: c19 :: .bool (someH m s fun a b => inR a b t) :: .bool (someH m s fun a b => meetsR a b ra rb) :: .bool (someH m s fun _ _ => true) :: c23 :: c24 :: c25 :: c26 :: c27 :: c28 :: c29 :: c30 :: c31 :: c32 :: c33 :: c34 :: c35 :: c36 :: c37 :: c38 :: c39 :: c40 :: c41 :: c42 :: c43 :: c44 :: c45 :: c46 :: c47 :: c48 :: c49 :: c50 :: c51 :: c52 :: c53 :: c54 :: c55 :: c56 :: c57 :: c58 :: c59 :: c60 :: c61 :: c62 :: c63 :: c64 :: c65 :: c66 :: c67 :: c68 :: c69 :: c70 :: c71 :: c72 :: c73 :: c74 :: c75 :: c76 :: c77 :: c78 :: c79 :: c80 :: c81 :: c82 :: c83 :: c84 :: c85 :: c86 :: c87 :: c88 :: c89 :: c90 :: c91 :: c92 :: c93 :: c94 :: c95 :: c96 :: c97 :: c98 :: c99 :: c100 :: c101 :: c102 :: c103 :: c104 :: c105 :: c106 :: c107 :: c108 :: c109 :: c110 :: c111 :: c112 :: c113 :: c114 :: c115 :: c116 :: c117 :: c118 :: c119 :: c120 :: c121 :: c122 :: c123 :: c124 :: c125 :: c126 :: c127 :: c128 :: c129 :: c130 :: c131 :: c132 :: c133 :: c134 :: c135 :: c136 :: c137 :: c138 :: c139 :: c140 :: c141 :: c142 :: c143 :: c144 :: c145 :: c146 :: c147 :: c148 :: c149 :: c150 :: c151 :: c152 :: c153 :: c154 :: c155 :: c156 :: c157 :: c158 :: c159 :: c160 :: c161 :: c162 :: c163 :: c164 :: c165 :: c166 :: c167 :: c168 :: c169 :: c170 :: c171 :: c172 :: c173 :: c174 :: c175 :: c176 :: c177 :: c178 :: c179 :: c180 :: c181 :: c182 :: c183 :: c184 :: c185 :: c186 :: c187 :: c188 :: c189 :: c190 :: c191 :: c192 :: c193 :: c194 :: c195 :: u196 :: u197 :: u198 :: u199 :: u200 :: u201 :: u202 :: u203 :: u204 :: u205 :: u206 :: u207 :: u208 :: u209 :: u210 :: u211 :: u212 :: u213 :: u214 :: u215 :: u216 :: u217 :: u218 :: u219 :: u220 :: u221 :: u222 :: .bool false :: c224 :: c225 :: c226 :: c227 :: c228 :: c229 :: c230 :: c231 :: c232 :: c233 :: c234 :: c235 :: c236 :: c237 :: c238 :: c239 :: c240 :: c241 :: c242 :: c243 :: c244 :: c245 :: c246 :: c247 :: c248 :: c249 :: c250 :: c251 :: c252 :: c253 :: c254 :: c255 :: []), ds⟩ W')) : Code.wp Try.prog (hpReg 53) Q ⟨List.toArray (c0 :: .string s :: .int .i64 t :: c3 :: c4 :: c5 :: c6 :: .pointer (some ⟨q7, 0, none⟩) :: .pointer (some ⟨q8, 0, none⟩) :: .pointer (some ⟨p, 0, none⟩) :: .pointer (some ⟨q10, 0, none⟩) :: c11 :: c12 :: c13 :: c14 :: c15 :: c16 :: c17 :: c18 :: c19 :: .bool (someH m s fun a b => inR a b t) :: .bool (someH m s fun a b => meetsR a b ra rb) :: .bool (someH m s fun _ _ => true) :: c23 :: c24 :: c25 :: c26 :: c27 :: c28 :: c29 :: c30 :: c31 :: c32 :: c33 :: c34 :: c35 :: c36 :: c37 :: c38 :: c39 :: c40 :: c41 :: c42 :: c43 :: c44 :: c45 :: c46 :: c47 :: c48 :: c49 :: c50 :: c51 :: c52 :: c53 :: c54 :: c55 :: c56 :: c57 :: c58 :: c59 :: c60 :: c61 :: c62 :: c63 :: c64 :: c65 :: c66 :: c67 :: c68 :: c69 :: c70 :: c71 :: c72 :: c73 :: c74 :: c75 :: c76 :: c77 :: c78 :: c79 :: c80 :: c81 :: c82 :: c83 :: c84 :: c85 :: c86 :: c87 :: c88 :: c89 :: c90 :: c91 :: c92 :: c93 :: c94 :: c95 :: c96 :: c97 :: c98 :: c99 :: c100 :: c101 :: c102 :: c103 :: c104 :: c105 :: c106 :: c107 :: c108 :: c109 :: c110 :: c111 :: c112 :: c113 :: c114 :: c115 :: c116 :: c117 :: c118 :: c119 :: c120 :: c121 :: c122 :: c123 :: c124 :: c125 :: c126 :: c127 :: c128 :: c129 :: c130 :: c131 :: c132 :: c133 :: c134 :: c135 :: c136 :: c137 :: c138 :: c139 :: c140 :: c141 :: c142 :: c143 :: c144 :: c145 :: c146 :: c147 :: c148 :: c149 :: c150 :: c151 :: c152 :: c153 :: c154 :: c155 :: c156 :: c157 :: c158 :: c159 :: c160 :: c161 :: c162 :: c163 :: c164 :: c165 :: c166 :: c167 :: c168 :: c169 :: c170 :: c171 :: c172 :: c173 :: c174 :: c175 :: c176 :: c177 :: c178 :: c179 :: c180 :: c181 :: c182 :: c183 :: c184 :: c185 :: c186 :: c187 :: c188 :: c189 :: c190 :: c191 :: c192 :: c193 :: c194 :: c195 :: c196 :: c197 :: c198 :: c199 :: c200 :: c201 :: c202 :: c203 :: c204 :: c205 :: c206 :: c207 :: c208 :: c209 :: c210 :: c211 :: c212 :: c213 :: c214 :: c215 :: c216 :: c217 :: c218 :: c219 :: c220 :: c221 :: c222 :: c223 :: c224 :: c225 :: c226 :: c227 :: c228 :: c229 :: c230 :: c231 :: c232 :: c233 :: c234 :: c235 :: c236 :: c237 :: c238 :: c239 :: c240 :: c241 :: c242 :: c243 :: c244 :: c245 :: c246 :: c247 :: c248 :: c249 :: c250 :: c251 :: c252 :: c253 :: c254 :: c255 :: []), ds⟩ W := by
  conv => arg 2; whnf
  have HCO : Hid (∀ W1, TabAt W1 p b m → Calls Try.prog 15 #[.pointer (some ⟨p, 0, none⟩), .string s, .int .i64 t] W1 fun e w' => e = .returned (.bool (someH m s fun a b => inR a b t)) ∧ Below W1.heap.size W1 w') := Lib.hid fun W1 h => hocov_any h HP.out.tst.tab s t
  have HME : Hid (∀ W1, TabAt W1 p b m → Calls Try.prog 16 #[.pointer (some ⟨p, 0, none⟩), .string s, .agg #[.int .i64 ra, .int .i64 rb]] W1 fun e w' => e = .returned (.bool (someH m s fun a b => meetsR a b ra rb)) ∧ Below W1.heap.size W1 w') := Lib.hid fun W1 h => homeet_any h HP.out.tst.tab s ra rb
  have HAN : Hid (∀ W1, TabAt W1 p b m → Calls Try.prog 17 #[.pointer (some ⟨p, 0, none⟩), .string s] W1 fun e w' => e = .returned (.bool (someH m s fun _ _ => true)) ∧ Below W1.heap.size W1 w') := Lib.hid fun W1 h => hoany_any h HP.out.tst.tab s
  have HLE : Hid (∀ W1, TabAt W1 p b m → Calls Try.prog 14 #[.pointer (some ⟨p, 0, none⟩)] W1 fun e w' => e = .returned (.int .i64 (m.length : Int)) ∧ w' = W1) := Lib.hid fun W1 h => holen_any h
  obtain ⟨CV, hCV⟩ : ∃ C, C = someH m s fun a b => inR a b t := ⟨_, rfl⟩
  obtain ⟨MV, hMV⟩ : ∃ C, C = someH m s fun a b => meetsR a b ra rb := ⟨_, rfl⟩
  obtain ⟨AV, hAV⟩ : ∃ C, C = someH m s fun _ _ => true := ⟨_, rfl⟩
  rw [← hCV] at HCO HN ⊢
  rw [← hMV] at HME HN ⊢
  rw [← hAV] at HAN HN ⊢
  have tC : (CV != CV) = false := by simp
  have tM : (MV != MV) = false := by simp
  have tA : (AV != AV) = false := by simp
  have hv := HV.out
  subst hv
  have HP0 : Hid (PSt w q7 q8 q10 p ra rb b m m (.slice va m.length vc) ds W.drew) := Lib.hid (HP.out.beyond (below_drew (Below.refl _ _)))
  have HC0 : Hid (W.drew.cell? ⟨q7, 0, none⟩ = some (.int .i64 ra) ∧ W.drew.cell? ⟨q7, 1, none⟩ = some (.int .i64 rb) ∧ W.drew.cell? ⟨q10, 0, none⟩ = some (.slice va m.length vc)) := Lib.hid ⟨HP0.out.nst.rg.cells.1, HP0.out.nst.rg.cells.2.1, HP0.out.cell.1⟩
  clear hCV hMV hAV
  go_region_held3 (fun w' => w'.cell? ⟨q7, 0, none⟩ = some (.int .i64 ra) ∧ w'.cell? ⟨q7, 1, none⟩ = some (.int .i64 rb) ∧ w'.cell? ⟨q10, 0, none⟩ = some (.slice va m.length vc)) (first | with_reducible exact HC0.out | with_reducible exact HC1.out | with_reducible exact HC2.out | with_reducible exact HC3.out) ((first | (go_at_call 15; refine (HCO.out _ HP0.out.tst.at_).mono ?_; clear HCO; rintro e W1 ⟨rfl, hb1⟩; have HP1 := Lib.hid (HP0.out.beyond hb1); have HC1 : Hid (W1.cell? ⟨q7, 0, none⟩ = some (.int .i64 ra) ∧ W1.cell? ⟨q7, 1, none⟩ = some (.int .i64 rb) ∧ W1.cell? ⟨q10, 0, none⟩ = some (.slice va m.length vc)) := Lib.hid ⟨HP1.out.nst.rg.cells.1, HP1.out.nst.rg.cells.2.1, HP1.out.cell.1⟩; clear hb1) | (go_at_call 16; refine (HME.out _ HP1.out.tst.at_).mono ?_; clear HME; rintro e W2 ⟨rfl, hb2⟩; have HP2 := Lib.hid (HP1.out.beyond hb2); have HC2 : Hid (W2.cell? ⟨q7, 0, none⟩ = some (.int .i64 ra) ∧ W2.cell? ⟨q7, 1, none⟩ = some (.int .i64 rb) ∧ W2.cell? ⟨q10, 0, none⟩ = some (.slice va m.length vc)) := Lib.hid ⟨HP2.out.nst.rg.cells.1, HP2.out.nst.rg.cells.2.1, HP2.out.cell.1⟩; clear hb2) | (go_at_call 17; refine (HAN.out _ HP2.out.tst.at_).mono ?_; clear HAN; rintro e W3 ⟨rfl, hb3⟩; have HP3 := Lib.hid (HP2.out.beyond hb3); have HC3 : Hid (W3.cell? ⟨q7, 0, none⟩ = some (.int .i64 ra) ∧ W3.cell? ⟨q7, 1, none⟩ = some (.int .i64 rb) ∧ W3.cell? ⟨q10, 0, none⟩ = some (.slice va m.length vc)) := Lib.hid ⟨HP3.out.nst.rg.cells.1, HP3.out.nst.rg.cells.2.1, HP3.out.cell.1⟩; clear hb3) | (go_at_call 14; refine (HLE.out _ HP3.out.tst.at_).mono ?_; clear HLE; rintro e W4 ⟨rfl, hw⟩; replace hw := hw.symm; subst hw)))
  exact HN.out _ _ _ _ _ _ _ _ _ _ _ _ _ _ _ _ _ _ _ _ _ _ _ _ _ _ _ _ HP3.out
end Go.Proofs.Ytphgkkdpdiiioaa
