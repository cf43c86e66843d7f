/- HoldPlays: all the acts, one by one. Written by py/hold-plays.py. -/
import Derived.Test.YtphgkkdpdiiioaaHpSw
import Derived.Test.YtphgkkdpdiiioaaHpCov
import Derived.Test.YtphgkkdpdiiioaaHpAll
import Derived.Test.YtphgkkdpdiiioaaHoActs
import Derived.Deep.Cut
import Derived.Deep.CutBlock
namespace Go.Proofs.Ytphgkkdpdiiioaa
open Go.RowKit Go.Shelf

set_option maxHeartbeats 16000000 in
set_option maxRecDepth 1000000 in
theorem hpLoop {w W : World} {q7 q8 q10 p : Nat} {ra rb t : Int} {s : ByteArray} {Q : Exit → Act → World → Prop} {a0 : Option Addr} {N c0' : Nat} {L : List HAct}
    (HA : Hid (HActsAt w (.slice a0 N c0') L)) (HLN : Hid (N = L.length ∧ N ≤ 60)) (HIN : Hid (∀ x ∈ L, x.In)) (HP : Hid (PSt w q7 q8 q10 p ra rb none [] [] (.slice none 0 0) [] W))
    (HRET : Hid (∀ (a' : Act) (W' : World), a'.tmps.getD 8 undef = .pointer (some ⟨q8, 0, none⟩) → W'.heap[q8]? = some (.cells #[.bool true] 4 (0, 0)) → MarksAt w.heap.size a'.defers W' → Below w.heap.size w W' → Q .ret a' W')) (c0 c3 c4 c5 c6 c11 c12 c13 c14 c15 c16 c17 c18 c19 c20 c21 c22 c23 c24 c25 c26 c27 c28 c29 c30 c31 c32 c33 c34 c35 c36 c37 c38 c39 c40 c41 c42 c43 c47 c48 c49 c50 c51 c52 c53 c54 c55 c56 c57 c58 c59 c60 c61 c62 c63 c64 c65 c66 c67 c68 c69 c70 c71 c72 c73 c74 c75 c76 c77 c78 c79 c80 c81 c82 c83 c84 c85 c86 c87 c88 c89 c90 c91 c92 c93 c94 c95 c96 c97 c98 c99 c100 c101 c102 c103 c104 c105 c106 c107 c108 c109 c110 c111 c112 c113 c114 c115 c116 c117 c118 c119 c120 c121 c122 c123 c124 c125 c126 c127 c128 c129 c130 c131 c132 c133 c134 c135 c136 c137 c138 c139 c140 c141 c142 c143 c144 c145 c146 c147 c148 c149 c150 c151 c152 c153 c154 c155 c156 c157 c158 c159 c160 c161 c162 c163 c164 c165 c166 c167 c168 c169 c170 c171 c172 c173 c174 c175 c176 c177 c178 c179 c180 c181 c182 c183 c184 c185 c186 c187 c188 c189 c190 c191 c192 c193 c194 c195 c196 c197 c198 c199 c200 c201 c202 c203 c204 c205 c206 c207 c208 c209 c210 c211 c212 c213 c214 c215 c216 c217 c218 c219 c220 c221 c222 c223 c224 c225 c226 c227 c228 c229 c230 c231 c232 c233 c234 c235 c236 c237 c238 c239 c240 c241 c242 c243 c244 c245 c246 c247 c248 c249 c250 c251 c252 c253 c254 c255 : Value)
    (HN : Hid (∀ (b' : Option Nat) (m' : List Hld) (v' : Value) (ds' : List Deferred) (W' : World) (u12 u13 u14 u15 u16 u17 u19 u20 u21 u22 u24 u25 u26 u27 u28 u29 u47 u48 u49 u50 u51 u52 u53 u54 u55 u56 u57 u58 u59 u60 u61 u62 u63 u64 u65 u66 u67 u68 u69 u70 u71 u72 u73 u74 u75 u76 u77 u78 u79 u80 u81 u82 u83 u84 u85 u86 u87 u88 u89 u90 u91 u92 u93 u94 u95 u96 u97 u98 u99 u100 u101 u102 u103 u104 u105 u106 u107 u108 u109 u110 u111 u112 u113 u114 u115 u116 u117 u118 u119 u120 u121 u122 u123 u124 u125 u126 u127 u128 u129 u130 u131 u132 u133 u134 u135 u136 u137 u138 u139 u140 u141 u142 u143 u144 u145 u146 u147 u148 u149 u150 u151 u152 u153 u154 u155 u156 u157 u158 u159 u160 u161 u162 u163 u164 u165 u166 u167 u168 u169 u170 u171 u172 u173 u174 u175 u176 u177 u178 u179 u180 u181 u182 u183 u184 u185 u186 u187 u188 u189 u190 u191 u192 u193 u194 u195 u196 u197 u198 u199 u200 u201 u202 u203 u204 u205 u206 u207 u208 u209 u210 u211 u212 u213 u214 u215 u216 u217 u218 u219 u220 u221 u222 u223 u224 u225 u227 u228 u229 u230 u231 u232 u233 u234 u235 u236 u237 u238 u239 u240 u241 u242 u243 u244 u245 u246 u247 u248 u249 u250 u251 u252 u253 u254 u255 : Value), PSt w q7 q8 q10 p ra rb b' m' m' v' ds' W' → Q .normal ⟨List.toArray (c0 :: .string s :: .int .i64 t :: c3 :: c4 :: c5 :: c6 :: .pointer (some ⟨q7, 0, none⟩) :: .pointer (some ⟨q8, 0, none⟩) :: .pointer (some ⟨p, 0, none⟩) :: .pointer (some ⟨q10, 0, none⟩) :: c11 :: u12 :: u13 :: u14 :: u15 :: u16 :: u17 :: c18 :: u19 :: u20 :: u21 :: u22 :: c23 :: u24 :: u25 :: u26 :: u27 :: u28 :: u29 :: c30 :: c31 :: c32 :: c33 :: c34 :: c35 :: c36 :: c37 :: c38 :: c39 :: c40 :: c41 :: c42 :: c43 :: .slice a0 N c0' :: .int .i64 (N : Int) :: .int .i64 (N : Int) :: u47 :: u48 :: u49 :: u50 :: u51 :: u52 :: u53 :: u54 :: u55 :: u56 :: u57 :: u58 :: u59 :: u60 :: u61 :: u62 :: u63 :: u64 :: u65 :: u66 :: u67 :: u68 :: u69 :: u70 :: u71 :: u72 :: u73 :: u74 :: u75 :: u76 :: u77 :: u78 :: u79 :: u80 :: u81 :: u82 :: u83 :: u84 :: u85 :: u86 :: u87 :: u88 :: u89 :: u90 :: u91 :: u92 :: u93 :: u94 :: u95 :: u96 :: u97 :: u98 :: u99 :: u100 :: u101 :: u102 :: u103 :: u104 :: u105 :: u106 :: u107 :: u108 :: u109 :: u110 :: u111 :: u112 :: u113 :: u114 :: u115 :: u116 :: u117 :: u118 :: u119 :: u120 :: u121 :: u122 :: u123 :: u124 :: u125 :: u126 :: u127 :: u128 :: u129 :: u130 :: u131 :: u132 :: u133 :: u134 :: u135 :: u136 :: u137 :: u138 :: u139 :: u140 :: u141 :: u142 :: u143 :: u144 :: u145 :: u146 :: u147 :: u148 :: u149 :: u150 :: u151 :: u152 :: u153 :: u154 :: u155 :: u156 :: u157 :: u158 :: u159 :: u160 :: u161 :: u162 :: u163 :: u164 :: u165 :: u166 :: u167 :: u168 :: u169 :: u170 :: u171 :: u172 :: u173 :: u174 :: u175 :: u176 :: u177 :: u178 :: u179 :: u180 :: u181 :: u182 :: u183 :: u184 :: u185 :: u186 :: u187 :: u188 :: u189 :: u190 :: u191 :: u192 :: u193 :: u194 :: u195 :: u196 :: u197 :: u198 :: u199 :: u200 :: u201 :: u202 :: u203 :: u204 :: u205 :: u206 :: u207 :: u208 :: u209 :: u210 :: u211 :: u212 :: u213 :: u214 :: u215 :: u216 :: u217 :: u218 :: u219 :: u220 :: u221 :: u222 :: u223 :: u224 :: u225 :: c226 :: u227 :: u228 :: u229 :: u230 :: u231 :: u232 :: u233 :: u234 :: u235 :: u236 :: u237 :: u238 :: u239 :: u240 :: u241 :: u242 :: u243 :: u244 :: u245 :: u246 :: u247 :: u248 :: u249 :: u250 :: u251 :: u252 :: u253 :: u254 :: u255 :: []), ds'⟩ W')) : Code.wp Try.prog (hpBlk 0) Q ⟨List.toArray (c0 :: .string s :: .int .i64 t :: c3 :: c4 :: c5 :: c6 :: .pointer (some ⟨q7, 0, none⟩) :: .pointer (some ⟨q8, 0, none⟩) :: .pointer (some ⟨p, 0, none⟩) :: .pointer (some ⟨q10, 0, none⟩) :: c11 :: c12 :: c13 :: c14 :: c15 :: c16 :: c17 :: c18 :: c19 :: c20 :: c21 :: c22 :: c23 :: c24 :: c25 :: c26 :: c27 :: c28 :: c29 :: c30 :: c31 :: c32 :: c33 :: c34 :: c35 :: c36 :: c37 :: c38 :: c39 :: c40 :: c41 :: c42 :: c43 :: .slice a0 N c0' :: .int .i64 (N : Int) :: .int .i64 0 :: c47 :: c48 :: c49 :: c50 :: c51 :: c52 :: c53 :: c54 :: c55 :: c56 :: c57 :: c58 :: c59 :: c60 :: c61 :: c62 :: c63 :: c64 :: c65 :: c66 :: c67 :: c68 :: c69 :: c70 :: c71 :: c72 :: c73 :: c74 :: c75 :: c76 :: c77 :: c78 :: c79 :: c80 :: c81 :: c82 :: c83 :: c84 :: c85 :: c86 :: c87 :: c88 :: c89 :: c90 :: c91 :: c92 :: c93 :: c94 :: c95 :: c96 :: c97 :: c98 :: c99 :: c100 :: c101 :: c102 :: c103 :: c104 :: c105 :: c106 :: c107 :: c108 :: c109 :: c110 :: c111 :: c112 :: c113 :: c114 :: c115 :: c116 :: c117 :: c118 :: c119 :: c120 :: c121 :: c122 :: c123 :: c124 :: c125 :: c126 :: c127 :: c128 :: c129 :: c130 :: c131 :: c132 :: c133 :: c134 :: c135 :: c136 :: c137 :: c138 :: c139 :: c140 :: c141 :: c142 :: c143 :: c144 :: c145 :: c146 :: c147 :: c148 :: c149 :: c150 :: c151 :: c152 :: c153 :: c154 :: c155 :: c156 :: c157 :: c158 :: c159 :: c160 :: c161 :: c162 :: c163 :: c164 :: c165 :: c166 :: c167 :: c168 :: c169 :: c170 :: c171 :: c172 :: c173 :: c174 :: c175 :: c176 :: c177 :: c178 :: c179 :: c180 :: c181 :: c182 :: c183 :: c184 :: c185 :: c186 :: c187 :: c188 :: c189 :: c190 :: c191 :: c192 :: c193 :: c194 :: c195 :: c196 :: c197 :: c198 :: c199 :: c200 :: c201 :: c202 :: c203 :: c204 :: c205 :: c206 :: c207 :: c208 :: c209 :: c210 :: c211 :: c212 :: c213 :: c214 :: c215 :: c216 :: c217 :: c218 :: c219 :: c220 :: c221 :: c222 :: c223 :: c224 :: c225 :: c226 :: c227 :: c228 :: c229 :: c230 :: c231 :: c232 :: c233 :: c234 :: c235 :: c236 :: c237 :: c238 :: c239 :: c240 :: c241 :: c242 :: c243 :: c244 :: c245 :: c246 :: c247 :: c248 :: c249 :: c250 :: c251 :: c252 :: c253 :: c254 :: c255 :: []), []⟩ W := by
  conv => arg 2; whnf
  go_wp2_with fail
  refine wp_loop (fun a' W' => ∃ (k : Nat) (b : Option Nat) (m : List Hld) (v : Value) (ds : List Deferred), ∃ u12 u13 u14 u15 u16 u17 u19 u20 u21 u22 u24 u25 u26 u27 u28 u29 u47 u48 u49 u50 u51 u52 u53 u54 u55 u56 u57 u58 u59 u60 u61 u62 u63 u64 u65 u66 u67 u68 u69 u70 u71 u72 u73 u74 u75 u76 u77 u78 u79 u80 u81 u82 u83 u84 u85 u86 u87 u88 u89 u90 u91 u92 u93 u94 u95 u96 u97 u98 u99 u100 u101 u102 u103 u104 u105 u106 u107 u108 u109 u110 u111 u112 u113 u114 u115 u116 u117 u118 u119 u120 u121 u122 u123 u124 u125 u126 u127 u128 u129 u130 u131 u132 u133 u134 u135 u136 u137 u138 u139 u140 u141 u142 u143 u144 u145 u146 u147 u148 u149 u150 u151 u152 u153 u154 u155 u156 u157 u158 u159 u160 u161 u162 u163 u164 u165 u166 u167 u168 u169 u170 u171 u172 u173 u174 u175 u176 u177 u178 u179 u180 u181 u182 u183 u184 u185 u186 u187 u188 u189 u190 u191 u192 u193 u194 u195 u196 u197 u198 u199 u200 u201 u202 u203 u204 u205 u206 u207 u208 u209 u210 u211 u212 u213 u214 u215 u216 u217 u218 u219 u220 u221 u222 u223 u224 u225 u227 u228 u229 u230 u231 u232 u233 u234 u235 u236 u237 u238 u239 u240 u241 u242 u243 u244 u245 u246 u247 u248 u249 u250 u251 u252 u253 u254 u255 : Value, (k ≤ N ∧ PSt w q7 q8 q10 p ra rb b m m v ds W') ∧ a' = ⟨List.toArray (c0 :: .string s :: .int .i64 t :: c3 :: c4 :: c5 :: c6 :: .pointer (some ⟨q7, 0, none⟩) :: .pointer (some ⟨q8, 0, none⟩) :: .pointer (some ⟨p, 0, none⟩) :: .pointer (some ⟨q10, 0, none⟩) :: c11 :: u12 :: u13 :: u14 :: u15 :: u16 :: u17 :: c18 :: u19 :: u20 :: u21 :: u22 :: c23 :: u24 :: u25 :: u26 :: u27 :: u28 :: u29 :: c30 :: c31 :: c32 :: c33 :: c34 :: c35 :: c36 :: c37 :: c38 :: c39 :: c40 :: c41 :: c42 :: c43 :: .slice a0 N c0' :: .int .i64 (N : Int) :: .int .i64 (k : Int) :: u47 :: u48 :: u49 :: u50 :: u51 :: u52 :: u53 :: u54 :: u55 :: u56 :: u57 :: u58 :: u59 :: u60 :: u61 :: u62 :: u63 :: u64 :: u65 :: u66 :: u67 :: u68 :: u69 :: u70 :: u71 :: u72 :: u73 :: u74 :: u75 :: u76 :: u77 :: u78 :: u79 :: u80 :: u81 :: u82 :: u83 :: u84 :: u85 :: u86 :: u87 :: u88 :: u89 :: u90 :: u91 :: u92 :: u93 :: u94 :: u95 :: u96 :: u97 :: u98 :: u99 :: u100 :: u101 :: u102 :: u103 :: u104 :: u105 :: u106 :: u107 :: u108 :: u109 :: u110 :: u111 :: u112 :: u113 :: u114 :: u115 :: u116 :: u117 :: u118 :: u119 :: u120 :: u121 :: u122 :: u123 :: u124 :: u125 :: u126 :: u127 :: u128 :: u129 :: u130 :: u131 :: u132 :: u133 :: u134 :: u135 :: u136 :: u137 :: u138 :: u139 :: u140 :: u141 :: u142 :: u143 :: u144 :: u145 :: u146 :: u147 :: u148 :: u149 :: u150 :: u151 :: u152 :: u153 :: u154 :: u155 :: u156 :: u157 :: u158 :: u159 :: u160 :: u161 :: u162 :: u163 :: u164 :: u165 :: u166 :: u167 :: u168 :: u169 :: u170 :: u171 :: u172 :: u173 :: u174 :: u175 :: u176 :: u177 :: u178 :: u179 :: u180 :: u181 :: u182 :: u183 :: u184 :: u185 :: u186 :: u187 :: u188 :: u189 :: u190 :: u191 :: u192 :: u193 :: u194 :: u195 :: u196 :: u197 :: u198 :: u199 :: u200 :: u201 :: u202 :: u203 :: u204 :: u205 :: u206 :: u207 :: u208 :: u209 :: u210 :: u211 :: u212 :: u213 :: u214 :: u215 :: u216 :: u217 :: u218 :: u219 :: u220 :: u221 :: u222 :: u223 :: u224 :: u225 :: c226 :: u227 :: u228 :: u229 :: u230 :: u231 :: u232 :: u233 :: u234 :: u235 :: u236 :: u237 :: u238 :: u239 :: u240 :: u241 :: u242 :: u243 :: u244 :: u245 :: u246 :: u247 :: u248 :: u249 :: u250 :: u251 :: u252 :: u253 :: u254 :: u255 :: []), ds⟩) (fun a' _ => N - (intOf (a'.tmps.getD 46 undef)).toNat) ?_ ?_
  · refine ⟨0, none, [], .slice none 0 0, [], _, _, _, _, _, _, _, _, _, _, _, _, _, _, _, _, _, _, _, _, _, _, _, _, _, _, _, _, _, _, _, _, _, _, _, _, _, _, _, _, _, _, _, _, _, _, _, _, _, _, _, _, _, _, _, _, _, _, _, _, _, _, _, _, _, _, _, _, _, _, _, _, _, _, _, _, _, _, _, _, _, _, _, _, _, _, _, _, _, _, _, _, _, _, _, _, _, _, _, _, _, _, _, _, _, _, _, _, _, _, _, _, _, _, _, _, _, _, _, _, _, _, _, _, _, _, _, _, _, _, _, _, _, _, _, _, _, _, _, _, _, _, _, _, _, _, _, _, _, _, _, _, _, _, _, _, _, _, _, _, _, _, _, _, _, _, _, _, _, _, _, _, _, _, _, _, _, _, _, _, _, _, _, _, _, _, _, _, _, _, _, _, _, _, _, _, _, _, _, _, _, _, _, _, _, _, _, _, _, _, _, _, _, _, _, _, _, _, _, _, _, _, _, _, ⟨Nat.zero_le _, HP.out⟩, rfl⟩
  · intro a' wr hinv
    obtain ⟨k, hinv⟩ := hinv
    obtain ⟨b, hinv⟩ := hinv
    obtain ⟨m, hinv⟩ := hinv
    obtain ⟨v, hinv⟩ := hinv
    obtain ⟨ds, hinv⟩ := hinv
    obtain ⟨u12, hinv⟩ := hinv
    obtain ⟨u13, hinv⟩ := hinv
    obtain ⟨u14, hinv⟩ := hinv
    obtain ⟨u15, hinv⟩ := hinv
    obtain ⟨u16, hinv⟩ := hinv
    obtain ⟨u17, hinv⟩ := hinv
    obtain ⟨u19, hinv⟩ := hinv
    obtain ⟨u20, hinv⟩ := hinv
    obtain ⟨u21, hinv⟩ := hinv
    obtain ⟨u22, hinv⟩ := hinv
    obtain ⟨u24, hinv⟩ := hinv
    obtain ⟨u25, hinv⟩ := hinv
    obtain ⟨u26, hinv⟩ := hinv
    obtain ⟨u27, hinv⟩ := hinv
    obtain ⟨u28, hinv⟩ := hinv
    obtain ⟨u29, hinv⟩ := hinv
    obtain ⟨u47, hinv⟩ := hinv
    obtain ⟨u48, hinv⟩ := hinv
    obtain ⟨u49, hinv⟩ := hinv
    obtain ⟨u50, hinv⟩ := hinv
    obtain ⟨u51, hinv⟩ := hinv
    obtain ⟨u52, hinv⟩ := hinv
    obtain ⟨u53, hinv⟩ := hinv
    obtain ⟨u54, hinv⟩ := hinv
    obtain ⟨u55, hinv⟩ := hinv
    obtain ⟨u56, hinv⟩ := hinv
    obtain ⟨u57, hinv⟩ := hinv
    obtain ⟨u58, hinv⟩ := hinv
    obtain ⟨u59, hinv⟩ := hinv
    obtain ⟨u60, hinv⟩ := hinv
    obtain ⟨u61, hinv⟩ := hinv
    obtain ⟨u62, hinv⟩ := hinv
    obtain ⟨u63, hinv⟩ := hinv
    obtain ⟨u64, hinv⟩ := hinv
    obtain ⟨u65, hinv⟩ := hinv
    obtain ⟨u66, hinv⟩ := hinv
    obtain ⟨u67, hinv⟩ := hinv
    obtain ⟨u68, hinv⟩ := hinv
    obtain ⟨u69, hinv⟩ := hinv
    obtain ⟨u70, hinv⟩ := hinv
    obtain ⟨u71, hinv⟩ := hinv
    obtain ⟨u72, hinv⟩ := hinv
    obtain ⟨u73, hinv⟩ := hinv
    obtain ⟨u74, hinv⟩ := hinv
    obtain ⟨u75, hinv⟩ := hinv
    obtain ⟨u76, hinv⟩ := hinv
    obtain ⟨u77, hinv⟩ := hinv
    obtain ⟨u78, hinv⟩ := hinv
    obtain ⟨u79, hinv⟩ := hinv
    obtain ⟨u80, hinv⟩ := hinv
    obtain ⟨u81, hinv⟩ := hinv
    obtain ⟨u82, hinv⟩ := hinv
    obtain ⟨u83, hinv⟩ := hinv
    obtain ⟨u84, hinv⟩ := hinv
    obtain ⟨u85, hinv⟩ := hinv
    obtain ⟨u86, hinv⟩ := hinv
    obtain ⟨u87, hinv⟩ := hinv
    obtain ⟨u88, hinv⟩ := hinv
    obtain ⟨u89, hinv⟩ := hinv
    obtain ⟨u90, hinv⟩ := hinv
    obtain ⟨u91, hinv⟩ := hinv
    obtain ⟨u92, hinv⟩ := hinv
    obtain ⟨u93, hinv⟩ := hinv
    obtain ⟨u94, hinv⟩ := hinv
    obtain ⟨u95, hinv⟩ := hinv
    obtain ⟨u96, hinv⟩ := hinv
    obtain ⟨u97, hinv⟩ := hinv
    obtain ⟨u98, hinv⟩ := hinv
    obtain ⟨u99, hinv⟩ := hinv
    obtain ⟨u100, hinv⟩ := hinv
    obtain ⟨u101, hinv⟩ := hinv
    obtain ⟨u102, hinv⟩ := hinv
    obtain ⟨u103, hinv⟩ := hinv
    obtain ⟨u104, hinv⟩ := hinv
    obtain ⟨u105, hinv⟩ := hinv
    obtain ⟨u106, hinv⟩ := hinv
    obtain ⟨u107, hinv⟩ := hinv
    obtain ⟨u108, hinv⟩ := hinv
    obtain ⟨u109, hinv⟩ := hinv
    obtain ⟨u110, hinv⟩ := hinv
    obtain ⟨u111, hinv⟩ := hinv
    obtain ⟨u112, hinv⟩ := hinv
    obtain ⟨u113, hinv⟩ := hinv
    obtain ⟨u114, hinv⟩ := hinv
    obtain ⟨u115, hinv⟩ := hinv
    obtain ⟨u116, hinv⟩ := hinv
    obtain ⟨u117, hinv⟩ := hinv
    obtain ⟨u118, hinv⟩ := hinv
    obtain ⟨u119, hinv⟩ := hinv
    obtain ⟨u120, hinv⟩ := hinv
    obtain ⟨u121, hinv⟩ := hinv
    obtain ⟨u122, hinv⟩ := hinv
    obtain ⟨u123, hinv⟩ := hinv
    obtain ⟨u124, hinv⟩ := hinv
    obtain ⟨u125, hinv⟩ := hinv
    obtain ⟨u126, hinv⟩ := hinv
    obtain ⟨u127, hinv⟩ := hinv
    obtain ⟨u128, hinv⟩ := hinv
    obtain ⟨u129, hinv⟩ := hinv
    obtain ⟨u130, hinv⟩ := hinv
    obtain ⟨u131, hinv⟩ := hinv
    obtain ⟨u132, hinv⟩ := hinv
    obtain ⟨u133, hinv⟩ := hinv
    obtain ⟨u134, hinv⟩ := hinv
    obtain ⟨u135, hinv⟩ := hinv
    obtain ⟨u136, hinv⟩ := hinv
    obtain ⟨u137, hinv⟩ := hinv
    obtain ⟨u138, hinv⟩ := hinv
    obtain ⟨u139, hinv⟩ := hinv
    obtain ⟨u140, hinv⟩ := hinv
    obtain ⟨u141, hinv⟩ := hinv
    obtain ⟨u142, hinv⟩ := hinv
    obtain ⟨u143, hinv⟩ := hinv
    obtain ⟨u144, hinv⟩ := hinv
    obtain ⟨u145, hinv⟩ := hinv
    obtain ⟨u146, hinv⟩ := hinv
    obtain ⟨u147, hinv⟩ := hinv
    obtain ⟨u148, hinv⟩ := hinv
    obtain ⟨u149, hinv⟩ := hinv
    obtain ⟨u150, hinv⟩ := hinv
    obtain ⟨u151, hinv⟩ := hinv
    obtain ⟨u152, hinv⟩ := hinv
    obtain ⟨u153, hinv⟩ := hinv
    obtain ⟨u154, hinv⟩ := hinv
    obtain ⟨u155, hinv⟩ := hinv
    obtain ⟨u156, hinv⟩ := hinv
    obtain ⟨u157, hinv⟩ := hinv
    obtain ⟨u158, hinv⟩ := hinv
    obtain ⟨u159, hinv⟩ := hinv
    obtain ⟨u160, hinv⟩ := hinv
    obtain ⟨u161, hinv⟩ := hinv
    obtain ⟨u162, hinv⟩ := hinv
    obtain ⟨u163, hinv⟩ := hinv
    obtain ⟨u164, hinv⟩ := hinv
    obtain ⟨u165, hinv⟩ := hinv
    obtain ⟨u166, hinv⟩ := hinv
    obtain ⟨u167, hinv⟩ := hinv
    obtain ⟨u168, hinv⟩ := hinv
    obtain ⟨u169, hinv⟩ := hinv
    obtain ⟨u170, hinv⟩ := hinv
    obtain ⟨u171, hinv⟩ := hinv
    obtain ⟨u172, hinv⟩ := hinv
    obtain ⟨u173, hinv⟩ := hinv
    obtain ⟨u174, hinv⟩ := hinv
    obtain ⟨u175, hinv⟩ := hinv
    obtain ⟨u176, hinv⟩ := hinv
    obtain ⟨u177, hinv⟩ := hinv
    obtain ⟨u178, hinv⟩ := hinv
    obtain ⟨u179, hinv⟩ := hinv
    obtain ⟨u180, hinv⟩ := hinv
    obtain ⟨u181, hinv⟩ := hinv
    obtain ⟨u182, hinv⟩ := hinv
    obtain ⟨u183, hinv⟩ := hinv
    obtain ⟨u184, hinv⟩ := hinv
    obtain ⟨u185, hinv⟩ := hinv
    obtain ⟨u186, hinv⟩ := hinv
    obtain ⟨u187, hinv⟩ := hinv
    obtain ⟨u188, hinv⟩ := hinv
    obtain ⟨u189, hinv⟩ := hinv
    obtain ⟨u190, hinv⟩ := hinv
    obtain ⟨u191, hinv⟩ := hinv
    obtain ⟨u192, hinv⟩ := hinv
    obtain ⟨u193, hinv⟩ := hinv
    obtain ⟨u194, hinv⟩ := hinv
    obtain ⟨u195, hinv⟩ := hinv
    obtain ⟨u196, hinv⟩ := hinv
    obtain ⟨u197, hinv⟩ := hinv
    obtain ⟨u198, hinv⟩ := hinv
    obtain ⟨u199, hinv⟩ := hinv
    obtain ⟨u200, hinv⟩ := hinv
    obtain ⟨u201, hinv⟩ := hinv
    obtain ⟨u202, hinv⟩ := hinv
    obtain ⟨u203, hinv⟩ := hinv
    obtain ⟨u204, hinv⟩ := hinv
    obtain ⟨u205, hinv⟩ := hinv
    obtain ⟨u206, hinv⟩ := hinv
    obtain ⟨u207, hinv⟩ := hinv
    obtain ⟨u208, hinv⟩ := hinv
    obtain ⟨u209, hinv⟩ := hinv
    obtain ⟨u210, hinv⟩ := hinv
    obtain ⟨u211, hinv⟩ := hinv
    obtain ⟨u212, hinv⟩ := hinv
    obtain ⟨u213, hinv⟩ := hinv
    obtain ⟨u214, hinv⟩ := hinv
    obtain ⟨u215, hinv⟩ := hinv
    obtain ⟨u216, hinv⟩ := hinv
    obtain ⟨u217, hinv⟩ := hinv
    obtain ⟨u218, hinv⟩ := hinv
    obtain ⟨u219, hinv⟩ := hinv
    obtain ⟨u220, hinv⟩ := hinv
    obtain ⟨u221, hinv⟩ := hinv
    obtain ⟨u222, hinv⟩ := hinv
    obtain ⟨u223, hinv⟩ := hinv
    obtain ⟨u224, hinv⟩ := hinv
    obtain ⟨u225, hinv⟩ := hinv
    obtain ⟨u227, hinv⟩ := hinv
    obtain ⟨u228, hinv⟩ := hinv
    obtain ⟨u229, hinv⟩ := hinv
    obtain ⟨u230, hinv⟩ := hinv
    obtain ⟨u231, hinv⟩ := hinv
    obtain ⟨u232, hinv⟩ := hinv
    obtain ⟨u233, hinv⟩ := hinv
    obtain ⟨u234, hinv⟩ := hinv
    obtain ⟨u235, hinv⟩ := hinv
    obtain ⟨u236, hinv⟩ := hinv
    obtain ⟨u237, hinv⟩ := hinv
    obtain ⟨u238, hinv⟩ := hinv
    obtain ⟨u239, hinv⟩ := hinv
    obtain ⟨u240, hinv⟩ := hinv
    obtain ⟨u241, hinv⟩ := hinv
    obtain ⟨u242, hinv⟩ := hinv
    obtain ⟨u243, hinv⟩ := hinv
    obtain ⟨u244, hinv⟩ := hinv
    obtain ⟨u245, hinv⟩ := hinv
    obtain ⟨u246, hinv⟩ := hinv
    obtain ⟨u247, hinv⟩ := hinv
    obtain ⟨u248, hinv⟩ := hinv
    obtain ⟨u249, hinv⟩ := hinv
    obtain ⟨u250, hinv⟩ := hinv
    obtain ⟨u251, hinv⟩ := hinv
    obtain ⟨u252, hinv⟩ := hinv
    obtain ⟨u253, hinv⟩ := hinv
    obtain ⟨u254, hinv⟩ := hinv
    obtain ⟨u255, hinv⟩ := hinv
    obtain ⟨⟨hk, hp⟩, ha⟩ := hinv
    subst ha
    have HP1 := Lib.hid hp
    clear hp HP
    by_cases hlt : k < N
    · have tk : decide ((k : Int) < (N : Int)) = true := by simp only [decide_eq_true_eq]; omega
      have hN := HLN.out.2
      obtain ⟨a1, b1, o1, c1, ev, ea, hcells⟩ := HA.out.beyond HP1.out.nst.bel
      injection ev with e1 e2 e3
      have hk2 : k < L.length := by rw [← HLN.out.1]; exact hlt
      have ea := ea (by rintro rfl; simp at hk2)
      rw [← e1] at ea
      subst ea
      obtain ⟨y, hy⟩ : ∃ y, L[k]? = some y := ⟨_, List.getElem?_eq_getElem hk2⟩
      have x0 := hcells k y hy 0 _ rfl
      rw [Nat.add_zero] at x0
      have x1 := hcells k y hy 1 _ rfl
      have x2 := hcells k y hy 2 _ rfl
      have x3 := hcells k y hy 3 _ rfl
      have x4 := hcells k y hy 4 _ rfl
      have HYI := Lib.hid (HIN.out y (List.mem_iff_getElem?.2 ⟨k, hy⟩))
      clear hcells e1 e2 e3 hy hk2
      obtain ⟨kind, ⟨nm, se, xa, xb⟩⟩ := y
      dsimp only at *
      have HP2 := Lib.hid (HP1.out.beyond (((Below.refl _ wr).alloc (Nat.le_refl _) (.cells #[.int .i64 kind, .string nm, .string se, .int .i64 xa, .int .i64 xb] 32)).alloc (by simp) (.cells #[.string nm, .string se, .int .i64 xa, .int .i64 xb] 30)))
      have HVL : Hid (∀ j, v.ownBlock = some j → j < wr.heap.size) := Lib.hid fun j hj => (HP1.out.row.lt j hj).2
      by_cases h1 : 60 < nm.size
      · have t1 : decide ((60 : Int) < (nm.size : Int)) = true := by simp only [decide_eq_true_eq]; omega
        clear h1
        obtain ⟨-, -, g8, f8⟩ := HP2.out.nst.cells
        go_wp2_with fail
        exact HRET.out _ _ rfl (HP2.out.nst.set true).res (HP2.out.mks.only (Only.setCell (S := fun j => j = q8) _ rfl _) (fun J o hJ e => by have := HP2.out.nst.res; rw [← e, hJ] at this; cases this)) (HP2.out.nst.set true).bel
      · have t1 : decide ((60 : Int) < (nm.size : Int)) = false := by simp only [decide_eq_false_iff_not]; omega
        by_cases h2 : 60 < se.size
        · have t2 : decide ((60 : Int) < (se.size : Int)) = true := by simp only [decide_eq_true_eq]; omega
          clear h1 h2
          obtain ⟨-, -, g8, f8⟩ := HP2.out.nst.cells
          go_wp2_with fail
          exact HRET.out _ _ rfl (HP2.out.nst.set true).res (HP2.out.mks.only (Only.setCell (S := fun j => j = q8) _ rfl _) (fun J o hJ e => by have := HP2.out.nst.res; rw [← e, hJ] at this; cases this)) (HP2.out.nst.set true).bel
        · have t2 : decide ((60 : Int) < (se.size : Int)) = false := by simp only [decide_eq_false_iff_not]; omega
          have HZ : Hid (nm.size ≤ 60 ∧ se.size ≤ 60) := Lib.hid ⟨by omega, by omega⟩
          obtain ⟨g10, f10⟩ := HP2.out.cell
          obtain ⟨va, vc, ev⟩ := own_slice HP2.out.row
          subst ev
          have HFD : Hid (Calls Try.prog 8 #[.slice va m.length vc, .string nm] ((wr.alloc (.cells #[.int .i64 kind, .string nm, .string se, .int .i64 xa, .int .i64 xb] 32)).alloc (.cells #[.string nm, .string se, .int .i64 xa, .int .i64 xb] 30)) fun e w' => e = .returned (.int .i64 (findH m nm)) ∧ w' = ((wr.alloc (.cells #[.int .i64 kind, .string nm, .string se, .int .i64 xa, .int .i64 xb] 32)).alloc (.cells #[.string nm, .string se, .int .i64 xa, .int .i64 xb] 30))) := Lib.hid (hofind_any nm HP2.out.row.lies (by have := HP2.out.tst.tab.few; omega))
          clear h1 h2
          go_upto_block 2 with (go_at_call 8; refine (HFD.out).mono ?_; rintro e W1 ⟨rfl, rfl⟩)
          refine wp_name fun W1 hW1 => ?_
          have HPW : Hid (PSt w q7 q8 q10 p ra rb b m m (.slice va m.length vc) ds W1) := Lib.hid (by rw [hW1.out]; exact HP2.out)
          have e13 : (wr.alloc (.cells #[.int .i64 kind, .string nm, .string se, .int .i64 xa, .int .i64 xb] 32)).heap.size = wr.heap.size + 1 := by simp
          have HXW : Hid (Arr W1 (wr.heap.size + 1) 30 (⟨nm, se, xa, xb⟩ : Hld).cells ∧ (Value.slice va m.length vc).ownBlock ≠ some (wr.heap.size + 1)) := Lib.hid ⟨by rw [hW1.out, ← e13]; exact heap_alloc_new _ _, fun e => by have := HVL.out _ e; omega⟩
          clear hW1 e13 HP2 HFD g10 f10
          refine hpSw (x := ⟨nm, se, xa, xb⟩) (q13 := wr.heap.size + 1) HPW HXW HZ _ _ _ _ _ _ _ _ _ _ _ _ _ _ _ _ _ _ _ _ _ _ _ _ _ _ _ _ _ _ _ _ _ _ _ _ _ _ _ _ _ _ _ _ _ _ _ _ _ _ _ _ _ _ _ _ _ _ _ _ _ _ _ _ _ _ _ _ _ _ _ _ _ _ _ _ _ _ _ _ _ _ _ _ _ _ _ _ _ _ _ _ _ _ _ _ _ _ _ _ _ _ _ _ _ _ _ _ _ _ _ _ _ _ _ _ _ _ _ _ _ _ _ _ _ _ _ _ _ _ _ _ _ _ _ _ _ _ _ _ _ _ _ _ _ _ _ _ _ _ _ _ _ _ _ _ _ _ _ _ _ _ _ _ _ _ _ _ _ _ _ _ _ _ _ _ _ _ _ _ _ _ _ _ _ _ _ _ _ _ _ _ _ _ _ _ _ _ _ _ _ _ _ _ _ _ _ _ _ _ _ _ _ _ _ _ _ _ _ _ _ _ _ _ _ _ _ _ _ _ _ _ _ _ _ _ _ _ _ _ _ _ _ _ _ _ _ ?_
          refine Lib.hid ?_
          intro b2 m2 v2 W3 u15 u16 u17 u19 u68 u69 u70 u71 u72 u73 u74 u75 u76 u77 u78 u79 u80 u81 u82 u83 u84 u85 u86 u87 u88 u89 u90 u91 u92 u93 u94 u95 u96 u97 u98 u99 u100 u101 u102 u103 u104 u105 u106 u107 u108 u109 u110 u111 u112 u113 u114 u115 u116 u117 u118 u119 u120 u121 u122 u123 u124 u125 u126 u127 u128 u129 u130 u131 u132 u133 u134 u135 u136 u137 u138 u139 u140 u141 u142 u143 u144 hp3
          have HP3 := Lib.hid hp3
          obtain ⟨va2, vc2, ev2⟩ := own_slice hp3.row
          subst ev2
          obtain ⟨g10, f10⟩ := hp3.cell
          clear hp3 HPW HXW HZ HP1 HVL HYI
          go_upto_block 6 with fail
          refine hpCov (va := va2) (vc := vc2) HP3 (Lib.hid rfl) _ _ _ _ _ _ _ _ _ _ _ _ _ _ _ _ _ _ _ _ _ _ _ _ _ _ _ _ _ _ _ _ _ _ _ _ _ _ _ _ _ _ _ _ _ _ _ _ _ _ _ _ _ _ _ _ _ _ _ _ _ _ _ _ _ _ _ _ _ _ _ _ _ _ _ _ _ _ _ _ _ _ _ _ _ _ _ _ _ _ _ _ _ _ _ _ _ _ _ _ _ _ _ _ _ _ _ _ _ _ _ _ _ _ _ _ _ _ _ _ _ _ _ _ _ _ _ _ _ _ _ _ _ _ _ _ _ _ _ _ _ _ _ _ _ _ _ _ _ _ _ _ _ _ _ _ _ _ _ _ _ _ _ _ _ _ _ _ _ _ _ _ _ _ _ _ _ _ _ _ _ _ _ _ _ _ _ _ _ _ _ _ _ _ _ _ _ _ _ _ _ _ _ _ _ _ _ _ _ _ _ _ _ _ _ _ _ _ _ _ _ _ _ _ _ _ _ _ _ _ _ _ _ _ _ _ _ _ _ _ _ _ _ _ ?_
          refine Lib.hid ?_
          intro W4 u24 u25 u147 u148 u149 u150 u151 u152 u153 u154 u155 u156 u157 u158 u159 u160 u161 u162 u163 u164 u165 u166 u167 u168 u169 u170 u171 u172 u173 u174 u175 u176 u177 u178 u179 u180 u181 u182 u183 u184 u185 u186 u187 u188 u189 u190 u191 u192 u193 u194 u195 hp4
          have HP4 := Lib.hid hp4
          clear hp4 g10 f10 HP3
          go_upto_region 53 with fail
          refine hpAsk (va := va2) (vc := vc2) HP4 (Lib.hid rfl) _ _ _ _ _ _ _ _ _ _ _ _ _ _ _ _ _ _ _ _ _ _ _ _ _ _ _ _ _ _ _ _ _ _ _ _ _ _ _ _ _ _ _ _ _ _ _ _ _ _ _ _ _ _ _ _ _ _ _ _ _ _ _ _ _ _ _ _ _ _ _ _ _ _ _ _ _ _ _ _ _ _ _ _ _ _ _ _ _ _ _ _ _ _ _ _ _ _ _ _ _ _ _ _ _ _ _ _ _ _ _ _ _ _ _ _ _ _ _ _ _ _ _ _ _ _ _ _ _ _ _ _ _ _ _ _ _ _ _ _ _ _ _ _ _ _ _ _ _ _ _ _ _ _ _ _ _ _ _ _ _ _ _ _ _ _ _ _ _ _ _ _ _ _ _ _ _ _ _ _ _ _ _ _ _ _ _ _ _ _ _ _ _ _ _ _ _ _ _ _ _ _ _ _ _ _ _ _ _ _ _ _ _ _ _ _ _ _ _ _ _ _ _ _ _ _ _ _ _ _ _ _ _ _ _ _ _ _ _ _ _ _ _ _ _ _ _ ?_
          refine Lib.hid ?_
          intro W5 u196 u197 u198 u199 u200 u201 u202 u203 u204 u205 u206 u207 u208 u209 u210 u211 u212 u213 u214 u215 u216 u217 u218 u219 u220 u221 u222 hp5
          have HP5 := Lib.hid hp5
          clear hp5 HP4
          go_upto_region 56 with fail
          refine wp_name fun W6 hW6 => ?_
          have hb6 : Below W5.heap.size W5 W6 := by rw [hW6.out]; exact ((Below.refl _ _).alloc (Nat.le_refl _) _).alloc (by simp) _
          have e26s : (W5.alloc (.cells #[.string ⟨#[]⟩] 9)).heap.size = W5.heap.size + 1 := by simp
          have e26 : W6.heap[W5.heap.size]? = some (.cells #[.string ⟨#[]⟩] 9 (0, 0)) := by rw [hW6.out]; exact (Below.heap_alloc _ _ _ (by simp)).trans (heap_alloc_new _ _)
          have e27 : W6.heap[W5.heap.size + 1]? = some (.cells #[.int .i64 0] 3 (0, 0)) := by rw [hW6.out, ← e26s]; exact heap_alloc_new _ _
          have HP6 := Lib.hid (HP5.out.beyond hb6)
          have HALL := Lib.hid (hoall_any HP6.out.tst.at_ HP6.out.tst.tab)
          have HB6 := Lib.hid hb6
          have E26 := Lib.hid e26
          have E27 := Lib.hid e27
          clear hW6 hb6 e26s e26 e27
          go_upto_block 8 with (go_at_call 18; refine (HALL.out).mono ?_; clear HALL; rintro e W7 ⟨B, vx, xs, rfl, hall⟩; have HAL := Lib.hid hall; clear hall)
          obtain ⟨h1, h2, h3, h4, h5, h6, h7⟩ := HAL.out
          have l26 := lt_of_block E26.out
          have l27 := lt_of_block E27.out
          have hb5 := HP5.out.nst.bel.size
          have HP7 := Lib.hid (HP6.out.beyond h7)
          refine hpAll (B := B) (q26 := W5.heap.size) (q27 := W5.heap.size + 1) (vx := vx) (xs := xs) HP7 (Lib.hid ⟨h1, h5, h3, h4⟩) (Lib.hid fun j hj => by have := h6 j hj; omega) (Lib.hid ⟨hb5, by omega, (h7.block _ l26).trans E26.out, (h7.block _ l27).trans E27.out⟩) _ _ _ _ _ _ _ _ _ _ _ _ _ _ _ _ _ _ _ _ _ _ _ _ _ _ _ _ _ _ _ _ _ _ _ _ _ _ _ _ _ _ _ _ _ _ _ _ _ _ _ _ _ _ _ _ _ _ _ _ _ _ _ _ _ _ _ _ _ _ _ _ _ _ _ _ _ _ _ _ _ _ _ _ _ _ _ _ _ _ _ _ _ _ _ _ _ _ _ _ _ _ _ _ _ _ _ _ _ _ _ _ _ _ _ _ _ _ _ _ _ _ _ _ _ _ _ _ _ _ _ _ _ _ _ _ _ _ _ _ _ _ _ _ _ _ _ _ _ _ _ _ _ _ _ _ _ _ _ _ _ _ _ _ _ _ _ _ _ _ _ _ _ _ _ _ _ _ _ _ _ _ _ _ _ _ _ _ _ _ _ _ _ _ _ _ _ _ _ _ _ _ _ _ _ _ _ _ _ _ _ _ _ _ _ _ _ _ _ _ _ _ _ _ _ _ _ _ _ _ _ _ _ _ _ _ _ _ _ _ _ _ _ _ _ _ _ ?_
          refine Lib.hid ?_
          intro K W8 hp8
          have HP8 := Lib.hid hp8.1
          have g27 := hp8.2
          obtain ⟨g10, f10⟩ := hp8.1.cell
          have tL : ((m2.length : Int) != (m2.length : Int)) = false := by simp
          clear hp8 h1 h2 h3 h4 h5 h6 h7 l26 l27 HP7 HAL E26 E27 HB6 HP6 HP5 hb5
          go_wp2_with fail
          refine ⟨⟨k + 1, b2, m2, _, _, _, _, _, _, _, _, _, _, _, _, _, _, _, _, _, _, _, _, _, _, _, _, _, _, _, _, _, _, _, _, _, _, _, _, _, _, _, _, _, _, _, _, _, _, _, _, _, _, _, _, _, _, _, _, _, _, _, _, _, _, _, _, _, _, _, _, _, _, _, _, _, _, _, _, _, _, _, _, _, _, _, _, _, _, _, _, _, _, _, _, _, _, _, _, _, _, _, _, _, _, _, _, _, _, _, _, _, _, _, _, _, _, _, _, _, _, _, _, _, _, _, _, _, _, _, _, _, _, _, _, _, _, _, _, _, _, _, _, _, _, _, _, _, _, _, _, _, _, _, _, _, _, _, _, _, _, _, _, _, _, _, _, _, _, _, _, _, _, _, _, _, _, _, _, _, _, _, _, _, _, _, _, _, _, _, _, _, _, _, _, _, _, _, _, _, _, _, _, _, _, _, _, _, _, _, _, _, _, _, _, _, _, _, _, _, _, _, _, _, _, _, _, _, _, ⟨by omega, HP8.out⟩, rfl⟩, ?_⟩
          simp [intOf]
          omega
    · obtain rfl : k = N := by omega
      have tk : decide ((k : Int) < (k : Int)) = false := by simp
      go_wp2
      exact HN.out _ _ _ _ _ _ _ _ _ _ _ _ _ _ _ _ _ _ _ _ _ _ _ _ _ _ _ _ _ _ _ _ _ _ _ _ _ _ _ _ _ _ _ _ _ _ _ _ _ _ _ _ _ _ _ _ _ _ _ _ _ _ _ _ _ _ _ _ _ _ _ _ _ _ _ _ _ _ _ _ _ _ _ _ _ _ _ _ _ _ _ _ _ _ _ _ _ _ _ _ _ _ _ _ _ _ _ _ _ _ _ _ _ _ _ _ _ _ _ _ _ _ _ _ _ _ _ _ _ _ _ _ _ _ _ _ _ _ _ _ _ _ _ _ _ _ _ _ _ _ _ _ _ _ _ _ _ _ _ _ _ _ _ _ _ _ _ _ _ _ _ _ _ _ _ _ _ _ _ _ _ _ _ _ _ _ _ _ _ _ _ _ _ _ _ _ _ _ _ _ _ _ _ _ _ _ _ _ _ _ _ _ _ _ _ _ _ _ _ _ _ _ _ _ _ _ _ _ _ HP1.out
end Go.Proofs.Ytphgkkdpdiiioaa
