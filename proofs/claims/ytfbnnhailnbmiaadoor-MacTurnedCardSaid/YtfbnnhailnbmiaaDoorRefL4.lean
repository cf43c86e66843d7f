/- The document's digest: its blocks. -/
import Derived.Test.YtfbnnhailnbmiaaDoorRefL8
namespace Go.Proofs.YtfbnnhailnbmiaaDoor
open Go.RowKit

/-- what is left of the filled row -/
def RestC (g nb q : Nat) (v : Value) : Prop := ∃ ad c, v = .slice (some ad) (64 * (nb - q)) c ∧ 64 * (nb - q) ≤ c ∧ (nb - q ≠ 0 → ad = ⟨g, 64 * q, none⟩)
theorem sum_words (s r : Hs) : ∀ (i a b : Nat), s.words[i]? = some a → r.words[i]? = some b → (sumH s r).words[i]? = some ((a + b) % 4294967296) := by
  intro i a b h1 h2
  have hi : i < 8 := (List.getElem?_eq_some_iff.1 h1).1
  have h : i = 0 ∨ i = 1 ∨ i = 2 ∨ i = 3 ∨ i = 4 ∨ i = 5 ∨ i = 6 ∨ i = 7 := by omega
  rcases h with rfl | rfl | rfl | rfl | rfl | rfl | rfl | rfl <;> (simp [Hs.words] at h1 h2; subst h1; subst h2; rfl)
theorem restC_next {gm nb q c : Nat} (hlt : q < nb) (hc : 64 * (nb - q) ≤ c) : RestC gm nb (q + 1) (.slice (if c = 64 then some ⟨gm, 64 * q, none⟩ else some ⟨gm, 64 * q + 64, none⟩) (64 * (nb - q) - 64) (c - 64)) := by
  rw [show 64 * (nb - q) - 64 = 64 * (nb - (q + 1)) by omega]
  by_cases h : c = 64
  · rw [if_pos h]; exact ⟨_, _, rfl, by omega, fun h0 => by omega⟩
  · rw [if_neg h]; exact ⟨_, _, rfl, by omega, fun _ => by congr 1⟩
def lenC : Value → Nat
  | .slice _ n _ => n
  | _ => 0

noncomputable def loop4C : Code := (loopsOf (Tryd.f15.body.getD .skip)).getD 3 .skip
set_option maxRecDepth 1000000 in
def loop4X (pb : List Nat) (nb P4 P5 _gm _k8 : Nat) (c0 c1 c2 c3 c6 c7 c9 c10 c28 c29 c30 c31 c32 c33 c34 c35 c36 c37 c38 c39 c40 c41 c42 c43 c44 c45 c46 c47 c48 c49 c50 c51 c52 c53 c54 c55 c56 c57 c58 c59 c60 c61 c62 c63 c64 c65 c66 c67 c68 c69 c70 c71 c72 c73 c74 c75 c76 c77 c275 c276 c277 c278 c279 c280 c281 c282 c283 c284 c285 c286 c287 c288 c289 c290 c291 c292 : Value) (w : World) (a : Act) (w2 : World) : Prop :=
  ∃ u8 u11 u12 u13 u14 u15 u16 u17 u18 u19 u20 u21 u22 u23 u24 u25 u26 u27 u78 u79 u80 u81 u82 u83 u84 u85 u86 u87 u88 u89 u90 u91 u92 u93 u94 u95 u96 u97 u98 u99 u100 u101 u102 u103 u104 u105 u106 u107 u108 u109 u110 u111 u112 u113 u114 u115 u116 u117 u118 u119 u120 u121 u122 u123 u124 u125 u126 u127 u128 u129 u130 u131 u132 u133 u134 u135 u136 u137 u138 u139 u140 u141 u142 u143 u144 u145 u146 u147 u148 u149 u150 u151 u152 u153 u154 u155 u156 u157 u158 u159 u160 u161 u162 u163 u164 u165 u166 u167 u168 u169 u170 u171 u172 u173 u174 u175 u176 u177 u178 u179 u180 u181 u182 u183 u184 u185 u186 u187 u188 u189 u190 u191 u192 u193 u194 u195 u196 u197 u198 u199 u200 u201 u202 u203 u204 u205 u206 u207 u208 u209 u210 u211 u212 u213 u214 u215 u216 u217 u218 u219 u220 u221 u222 u223 u224 u225 u226 u227 u228 u229 u230 u231 u232 u233 u234 u235 u236 u237 u238 u239 u240 u241 u242 u243 u244 u245 u246 u247 u248 u249 u250 u251 u252 u253 u254 u255 u256 u257 u258 u259 u260 u261 u262 u263 u264 u265 u266 u267 u268 u269 u270 u271 u272 u273 u274 : Value, (Arr w2 P4 50 (u32s (foldB nb startH pb).words) ∧ Only (fun k => k = P4) w w2) ∧ a = ⟨List.toArray (c0 :: c1 :: c2 :: c3 :: .pointer (some ⟨P4, 0, none⟩) :: .pointer (some ⟨P5, 0, none⟩) :: c6 :: c7 :: u8 :: c9 :: c10 :: u11 :: u12 :: u13 :: u14 :: u15 :: u16 :: u17 :: u18 :: u19 :: u20 :: u21 :: u22 :: u23 :: u24 :: u25 :: u26 :: u27 :: c28 :: c29 :: c30 :: c31 :: c32 :: c33 :: c34 :: c35 :: c36 :: c37 :: c38 :: c39 :: c40 :: c41 :: c42 :: c43 :: c44 :: c45 :: c46 :: c47 :: c48 :: c49 :: c50 :: c51 :: c52 :: c53 :: c54 :: c55 :: c56 :: c57 :: c58 :: c59 :: c60 :: c61 :: c62 :: c63 :: c64 :: c65 :: c66 :: c67 :: c68 :: c69 :: c70 :: c71 :: c72 :: c73 :: c74 :: c75 :: c76 :: c77 :: u78 :: u79 :: u80 :: u81 :: u82 :: u83 :: u84 :: u85 :: u86 :: u87 :: u88 :: u89 :: u90 :: u91 :: u92 :: u93 :: u94 :: u95 :: u96 :: u97 :: u98 :: u99 :: u100 :: u101 :: u102 :: u103 :: u104 :: u105 :: u106 :: u107 :: u108 :: u109 :: u110 :: u111 :: u112 :: u113 :: u114 :: u115 :: u116 :: u117 :: u118 :: u119 :: u120 :: u121 :: u122 :: u123 :: u124 :: u125 :: u126 :: u127 :: u128 :: u129 :: u130 :: u131 :: u132 :: u133 :: u134 :: u135 :: u136 :: u137 :: u138 :: u139 :: u140 :: u141 :: u142 :: u143 :: u144 :: u145 :: u146 :: u147 :: u148 :: u149 :: u150 :: u151 :: u152 :: u153 :: u154 :: u155 :: u156 :: u157 :: u158 :: u159 :: u160 :: u161 :: u162 :: u163 :: u164 :: u165 :: u166 :: u167 :: u168 :: u169 :: u170 :: u171 :: u172 :: u173 :: u174 :: u175 :: u176 :: u177 :: u178 :: u179 :: u180 :: u181 :: u182 :: u183 :: u184 :: u185 :: u186 :: u187 :: u188 :: u189 :: u190 :: u191 :: u192 :: u193 :: u194 :: u195 :: u196 :: u197 :: u198 :: u199 :: u200 :: u201 :: u202 :: u203 :: u204 :: u205 :: u206 :: u207 :: u208 :: u209 :: u210 :: u211 :: u212 :: u213 :: u214 :: u215 :: u216 :: u217 :: u218 :: u219 :: u220 :: u221 :: u222 :: u223 :: u224 :: u225 :: u226 :: u227 :: u228 :: u229 :: u230 :: u231 :: u232 :: u233 :: u234 :: u235 :: u236 :: u237 :: u238 :: u239 :: u240 :: u241 :: u242 :: u243 :: u244 :: u245 :: u246 :: u247 :: u248 :: u249 :: u250 :: u251 :: u252 :: u253 :: u254 :: u255 :: u256 :: u257 :: u258 :: u259 :: u260 :: u261 :: u262 :: u263 :: u264 :: u265 :: u266 :: u267 :: u268 :: u269 :: u270 :: u271 :: u272 :: u273 :: u274 :: c275 :: c276 :: c277 :: c278 :: c279 :: c280 :: c281 :: c282 :: c283 :: c284 :: c285 :: c286 :: c287 :: c288 :: c289 :: c290 :: c291 :: c292 :: []), []⟩
set_option maxHeartbeats 8000000 in
set_option maxRecDepth 1000000 in
theorem loop4 {pb : List Nat} {nb P4 P5 gm k8 : Nat} {w : World} {Q : Exit → Act → World → Prop} (hpl : pb.length = 64 * nb) (hpb : ∀ x ∈ pb, x < 256) (hbyt : BytesAt w gm 0 pb) (hP54 : ¬ P5 = P4) (hg4 : ¬ gm = P4) (hk8 : 64 * nb ≤ k8) (h4 : Arr w P4 50 (u32s startH.words)) (h5 : Arr w P5 51 (u32s keysL)) (c0 c1 c2 c3 c6 c7 c9 c10 c11 c12 c13 c14 c15 c16 c17 c18 c19 c20 c21 c22 c23 c24 c25 c26 c27 c28 c29 c30 c31 c32 c33 c34 c35 c36 c37 c38 c39 c40 c41 c42 c43 c44 c45 c46 c47 c48 c49 c50 c51 c52 c53 c54 c55 c56 c57 c58 c59 c60 c61 c62 c63 c64 c65 c66 c67 c68 c69 c70 c71 c72 c73 c74 c75 c76 c77 c78 c79 c80 c81 c82 c83 c84 c85 c86 c87 c88 c89 c90 c91 c92 c93 c94 c95 c96 c97 c98 c99 c100 c101 c102 c103 c104 c105 c106 c107 c108 c109 c110 c111 c112 c113 c114 c115 c116 c117 c118 c119 c120 c121 c122 c123 c124 c125 c126 c127 c128 c129 c130 c131 c132 c133 c134 c135 c136 c137 c138 c139 c140 c141 c142 c143 c144 c145 c146 c147 c148 c149 c150 c151 c152 c153 c154 c155 c156 c157 c158 c159 c160 c161 c162 c163 c164 c165 c166 c167 c168 c169 c170 c171 c172 c173 c174 c175 c176 c177 c178 c179 c180 c181 c182 c183 c184 c185 c186 c187 c188 c189 c190 c191 c192 c193 c194 c195 c196 c197 c198 c199 c200 c201 c202 c203 c204 c205 c206 c207 c208 c209 c210 c211 c212 c213 c214 c215 c216 c217 c218 c219 c220 c221 c222 c223 c224 c225 c226 c227 c228 c229 c230 c231 c232 c233 c234 c235 c236 c237 c238 c239 c240 c241 c242 c243 c244 c245 c246 c247 c248 c249 c250 c251 c252 c253 c254 c255 c256 c257 c258 c259 c260 c261 c262 c263 c264 c265 c266 c267 c268 c269 c270 c271 c272 c273 c274 c275 c276 c277 c278 c279 c280 c281 c282 c283 c284 c285 c286 c287 c288 c289 c290 c291 c292 : Value)
    (hexit : ∀ a' w'', loop4X pb nb P4 P5 gm k8 c0 c1 c2 c3 c6 c7 c9 c10 c28 c29 c30 c31 c32 c33 c34 c35 c36 c37 c38 c39 c40 c41 c42 c43 c44 c45 c46 c47 c48 c49 c50 c51 c52 c53 c54 c55 c56 c57 c58 c59 c60 c61 c62 c63 c64 c65 c66 c67 c68 c69 c70 c71 c72 c73 c74 c75 c76 c77 c275 c276 c277 c278 c279 c280 c281 c282 c283 c284 c285 c286 c287 c288 c289 c290 c291 c292 w a' w'' → Q (.exit 6) a' w'') : Code.wp Tryd.prog loop4C Q ⟨List.toArray (c0 :: c1 :: c2 :: c3 :: .pointer (some ⟨P4, 0, none⟩) :: .pointer (some ⟨P5, 0, none⟩) :: c6 :: c7 :: .slice (some ⟨gm, 0, none⟩) (64 * nb) k8 :: c9 :: c10 :: c11 :: c12 :: c13 :: c14 :: c15 :: c16 :: c17 :: c18 :: c19 :: c20 :: c21 :: c22 :: c23 :: c24 :: c25 :: c26 :: c27 :: c28 :: c29 :: c30 :: c31 :: c32 :: c33 :: c34 :: c35 :: c36 :: c37 :: c38 :: c39 :: c40 :: c41 :: c42 :: c43 :: c44 :: c45 :: c46 :: c47 :: c48 :: c49 :: c50 :: c51 :: c52 :: c53 :: c54 :: c55 :: c56 :: c57 :: c58 :: c59 :: c60 :: c61 :: c62 :: c63 :: c64 :: c65 :: c66 :: c67 :: c68 :: c69 :: c70 :: c71 :: c72 :: c73 :: c74 :: c75 :: c76 :: c77 :: c78 :: c79 :: c80 :: c81 :: c82 :: c83 :: c84 :: c85 :: c86 :: c87 :: c88 :: c89 :: c90 :: c91 :: c92 :: c93 :: c94 :: c95 :: c96 :: c97 :: c98 :: c99 :: c100 :: c101 :: c102 :: c103 :: c104 :: c105 :: c106 :: c107 :: c108 :: c109 :: c110 :: c111 :: c112 :: c113 :: c114 :: c115 :: c116 :: c117 :: c118 :: c119 :: c120 :: c121 :: c122 :: c123 :: c124 :: c125 :: c126 :: c127 :: c128 :: c129 :: c130 :: c131 :: c132 :: c133 :: c134 :: c135 :: c136 :: c137 :: c138 :: c139 :: c140 :: c141 :: c142 :: c143 :: c144 :: c145 :: c146 :: c147 :: c148 :: c149 :: c150 :: c151 :: c152 :: c153 :: c154 :: c155 :: c156 :: c157 :: c158 :: c159 :: c160 :: c161 :: c162 :: c163 :: c164 :: c165 :: c166 :: c167 :: c168 :: c169 :: c170 :: c171 :: c172 :: c173 :: c174 :: c175 :: c176 :: c177 :: c178 :: c179 :: c180 :: c181 :: c182 :: c183 :: c184 :: c185 :: c186 :: c187 :: c188 :: c189 :: c190 :: c191 :: c192 :: c193 :: c194 :: c195 :: c196 :: c197 :: c198 :: c199 :: c200 :: c201 :: c202 :: c203 :: c204 :: c205 :: c206 :: c207 :: c208 :: c209 :: c210 :: c211 :: c212 :: c213 :: c214 :: c215 :: c216 :: c217 :: c218 :: c219 :: c220 :: c221 :: c222 :: c223 :: c224 :: c225 :: c226 :: c227 :: c228 :: c229 :: c230 :: c231 :: c232 :: c233 :: c234 :: c235 :: c236 :: c237 :: c238 :: c239 :: c240 :: c241 :: c242 :: c243 :: c244 :: c245 :: c246 :: c247 :: c248 :: c249 :: c250 :: c251 :: c252 :: c253 :: c254 :: c255 :: c256 :: c257 :: c258 :: c259 :: c260 :: c261 :: c262 :: c263 :: c264 :: c265 :: c266 :: c267 :: c268 :: c269 :: c270 :: c271 :: c272 :: c273 :: c274 :: c275 :: c276 :: c277 :: c278 :: c279 :: c280 :: c281 :: c282 :: c283 :: c284 :: c285 :: c286 :: c287 :: c288 :: c289 :: c290 :: c291 :: c292 :: []), []⟩ w := by
  conv => arg 2; whnf
  go_loopw [8] (fun v wr => ∃ q : Nat, q ≤ nb ∧ RestC gm nb q v ∧ Arr wr P4 50 (u32s (foldB q startH pb).words) ∧ Only (fun k => k = P4) w wr) (fun v _ => lenC v)
  case atStart => exact ⟨0, by omega, ⟨⟨gm, 0, none⟩, k8, by simp, by omega, fun _ => by simp⟩, h4, Only.refl _ _⟩
  case round =>
    obtain ⟨q, hq, ⟨ad, c, rfl, hc, hadr⟩, h4q, ho⟩ := hrel
    by_cases hlt : q < nb
    · obtain ⟨m, hm⟩ : ∃ m, m = nb - q := ⟨_, rfl⟩
      have hadr2 := hadr (by omega)
      subst hadr2
      rw [← hm] at hc ⊢
      have t1 : decide ((0 : Int) < ((64 * m : Nat) : Int)) = true := by simp only [decide_eq_true_eq]; omega
      have t1' : (0 : Int) < 64 * (m : Int) := by omega
      obtain ⟨wq, hwq⟩ : ∃ W, W = wr := ⟨_, rfl⟩
      subst hwq
      have H4q := Lib.hid h4q
      have HOq := Lib.hid ho
      have hzq := ho.size
      obtain ⟨blk, hblk⟩ : ∃ blk, blk = (pb.drop (64 * q)).take 64 := ⟨_, rfl⟩
      have HBL : Hid (blk.length = 64) := Lib.hid (by rw [hblk, List.length_take, List.length_drop, hpl]; omega)
      have HBLT : Hid (∀ x ∈ blk, x < 256) := Lib.hid fun x hx => by
        rw [hblk] at hx
        exact hpb x (List.mem_of_mem_drop (List.mem_of_mem_take hx))
      have hgmz : gm < w.heap.size := by
        have := hbyt 0 (by omega)
        exact cell_lt this
      have HCELL : Hid (∀ k, k < 64 → wq.cell? ⟨gm, 64 * q + k, none⟩ = some (.int .u8 ((blk.getD k 0 : Nat) : Int))) := Lib.hid fun k hk => by
        have h1 := hbyt (64 * q + k) (by omega)
        rw [Nat.zero_add] at h1
        rw [hblk]
        have h2 : ((pb.drop (64 * q)).take 64).getD k 0 = pb.getD (64 * q + k) 0 := by simp only [List.getD]; rw [List.getElem?_take, if_pos hk, List.getElem?_drop]
        rw [h2, ← h1]
        exact World.cell?_of_block (w := w) (ho.block gm hgmz hg4)
      have HBK := Lib.hid hblk
      have HS := Lib.hid (foldB_succ q startH pb)
      have hok := foldB_ok q startH_ok pb
      obtain ⟨s, hs⟩ : ∃ s, s = foldB q startH pb := ⟨_, rfl⟩
      rw [← hs] at hok H4q
      rw [← hs, ← hblk] at HS
      have HOK := Lib.hid hok
      have H5q := Lib.hid (h5.only ho hP54)
      have hP4q := H4q.out.lt
      have hP5q := H5q.out.lt
      have HADR : Hid (64 * m ≤ c) := Lib.hid hc
      have HE := Lib.hid hexit
      clear hadr h4q ho hblk hs hok hexit hc
      repeat (first | go_values | go_skip | go_guarded | go_step | go_upon)
      obtain ⟨wa, hwa⟩ : ∃ W, W = wq.alloc (.cells #[.int .u32 0, .int .u32 0, .int .u32 0, .int .u32 0, .int .u32 0, .int .u32 0, .int .u32 0, .int .u32 0, .int .u32 0, .int .u32 0, .int .u32 0, .int .u32 0, .int .u32 0, .int .u32 0, .int .u32 0, .int .u32 0, .int .u32 0, .int .u32 0, .int .u32 0, .int .u32 0, .int .u32 0, .int .u32 0, .int .u32 0, .int .u32 0, .int .u32 0, .int .u32 0, .int .u32 0, .int .u32 0, .int .u32 0, .int .u32 0, .int .u32 0, .int .u32 0, .int .u32 0, .int .u32 0, .int .u32 0, .int .u32 0, .int .u32 0, .int .u32 0, .int .u32 0, .int .u32 0, .int .u32 0, .int .u32 0, .int .u32 0, .int .u32 0, .int .u32 0, .int .u32 0, .int .u32 0, .int .u32 0, .int .u32 0, .int .u32 0, .int .u32 0, .int .u32 0, .int .u32 0, .int .u32 0, .int .u32 0, .int .u32 0, .int .u32 0, .int .u32 0, .int .u32 0, .int .u32 0, .int .u32 0, .int .u32 0, .int .u32 0, .int .u32 0] 51) := ⟨_, rfl⟩
      have hba : Below wq.heap.size wq wa := by rw [hwa]; exact (Below.refl _ _).alloc (Nat.le_refl _) _
      have HA11 : Hid (Arr wa wq.heap.size 51 (u32s (fillL (sched blk 64) 64 0))) := Lib.hid (by rw [hwa]; exact heap_alloc_new wq _)
      rw [← hwa]
      have hza : wa.heap.size = wq.heap.size + 1 := by rw [hwa]; simp
      have HBA := Lib.hid hba
      have HZA := Lib.hid hza
      clear hwa hza hba
      refine loop5A (blk := blk) HBL.out HBLT.out (by omega) (fun k hk => (HBA.out.cell (p := ⟨gm, 64 * q + k, none⟩) (by simp only; omega)).trans (HCELL.out k hk)) (by omega) HA11.out _ _ _ _ _ _ _ _ _ _ _ _ _ _ _ _ _ _ _ _ _ _ _ _ _ _ _ _ _ _ _ _ _ _ _ _ _ _ _ _ _ _ _ _ _ _ _ _ _ _ _ _ _ _ _ _ _ _ _ _ _ _ _ _ _ _ _ _ _ _ _ _ _ _ _ _ _ _ _ _ _ _ _ _ _ _ _ _ _ _ _ _ _ _ _ _ _ _ _ _ _ _ _ _ _ _ _ _ _ _ _ _ _ _ _ _ _ _ _ _ _ _ _ _ _ _ _ _ _ _ _ _ _ _ _ _ _ _ _ _ _ _ _ _ _ _ _ _ _ _ _ _ _ _ _ _ _ _ _ _ _ _ _ _ _ _ _ _ _ _ _ _ _ _ _ _ _ _ _ _ _ _ _ _ _ _ _ _ _ _ _ _ _ _ _ _ _ _ _ _ _ _ _ _ _ _ _ _ _ _ _ _ _ _ _ _ _ _ _ _ _ _ _ _ _ _ _ _ _ _ _ _ _ _ _ _ _ _ _ _ _ _ _ _ _ _ _ _ _ _ _ _ _ _ _ _ _ _ _ _ _ _ _ _ _ _ _ _ _ _ _ _ _ _ _ _ _ _ _ _ _ _ _ _ _ _ _ _ _ _ ?_
      intro _ _ _ _ _ _ _ _ _ _ _ _ _ _ _ _ _ _ _ _ _ _ _ _ _ _ _ _ _ _ _ _ _ _ _ _ _ _ _ _ _ _ _ _ _ _ _ _ _ _ _ _ _ _ _ _ _ _ _ _ _ _ _ _ _ _ _ _ _ _ _ _ _ _ _ _ _ _ _ _ _ _ _ _ _ _ _ _ _ _ _ _ W5 ⟨h11, ho5⟩
      have H4a : Arr wa P4 50 (u32s s.words) := (HBA.out.block _ hP4q).trans H4q.out
      have H45 := Lib.hid (H4a.only ho5 (by omega))
      have H5a : Arr wa P5 51 (u32s keysL) := (HBA.out.block _ hP5q).trans H5q.out
      have H55 := Lib.hid (H5a.only ho5 (by omega))
      have H115 := Lib.hid h11
      have HO5 := Lib.hid ho5
      have k0 := H45.out.cell (i := 0) (u := .int .u32 (s.a : Nat)) rfl
      have k1 := H45.out.cell (i := 1) (u := .int .u32 (s.b : Nat)) rfl
      have k2 := H45.out.cell (i := 2) (u := .int .u32 (s.c : Nat)) rfl
      have k3 := H45.out.cell (i := 3) (u := .int .u32 (s.d : Nat)) rfl
      have k4 := H45.out.cell (i := 4) (u := .int .u32 (s.e : Nat)) rfl
      have k5 := H45.out.cell (i := 5) (u := .int .u32 (s.f : Nat)) rfl
      have k6 := H45.out.cell (i := 6) (u := .int .u32 (s.g : Nat)) rfl
      have k7 := H45.out.cell (i := 7) (u := .int .u32 (s.h : Nat)) rfl
      clear h11 ho5 H4a H5a
      simp only [Exit.inBlock, Exit.then]
      repeat (first | go_values | go_skip | go_guarded | go_step | go_upon)
      refine wp_region_still_lit (by kernel_rfl) (by kernel_rfl) ?_
      repeat still_step
      refine wpStill_nil ?_
      obtain ⟨V6, hV6⟩ : ∃ W, W = W5.drew := ⟨_, rfl⟩
      change Exit.then _ _ Exit.normal _ W5.drew
      rw [← hV6]
      have hdr : Only (fun _ => False) W5 V6 := by rw [hV6]; exact Only.drew _ _
      have H46 := Lib.hid (H45.out.only hdr (fun h => h))
      have H56 := Lib.hid (H55.out.only hdr (fun h => h))
      have H116 := Lib.hid (H115.out.only hdr (fun h => h))
      have HO6 : Hid (Only (fun k => k = wq.heap.size) wa V6) := Lib.hid (HO5.out.trans hdr (fun _ _ h => h.elim))
      clear hV6 hdr k0 k1 k2 k3 k4 k5 k6 k7
      repeat (first | go_values | go_skip | go_guarded | go_step | go_upon)
      refine loop6A (ws := sched blk 64) (s0 := s) HOK.out (sched_length _ _) H56.out H116.out _ _ _ _ _ _ _ _ _ _ _ _ _ _ _ _ _ _ _ _ _ _ _ _ _ _ _ _ _ _ _ _ _ _ _ _ _ _ _ _ _ _ _ _ _ _ _ _ _ _ _ _ _ _ _ _ _ _ _ _ _ _ _ _ _ _ _ _ _ _ _ _ _ _ _ _ _ _ _ _ _ _ _ _ _ _ _ _ _ _ _ _ _ _ _ _ _ _ _ _ _ _ _ _ _ _ _ _ _ _ _ _ _ _ _ _ _ _ _ _ _ _ _ _ _ _ _ _ _ _ _ _ _ _ _ _ _ _ _ _ _ _ _ _ _ _ _ _ _ _ _ _ _ _ _ _ _ _ _ _ _ _ _ _ _ _ _ _ _ _ _ _ _ _ _ _ _ _ _ _ _ _ _ _ _ _ _ _ _ _ _ _ _ _ _ _ _ _ _ _ _ _ _ _ _ _ _ _ _ _ _ _ _ _ _ _ _ _ _ _ _ _ _ _ _ _ _ _ _ _ _ _ _ _ _ _ _ _ _ _ _ _ _ _ _ _ _ _ _ _ _ _ _ _ _ _ _ _ _ _ _ _ _ _ _ _ _ _ _ _ _ _ _ _ _ _ _ _ _ _ _ _ ?_
      intro _ _ _ _ _ _ _ _ _ _ _ _ _ _ _ _ _ _ _ _ _ _ _ _ _ _ _ _ _ _ _ _ _ _ _ _ _ _ _ _ _ _ _ _ _ _ _ _ _ _ _ _ _ _ _ _ _ _ _ _ _ _ _ _ _ W7 ho7
      have H47 := Lib.hid (H46.out.only ho7 (fun h => h))
      have HO7 : Hid (Only (fun k => k = wq.heap.size) wa W7) := Lib.hid (HO6.out.trans ho7 (fun _ _ h => h.elim))
      obtain ⟨⟨ra, rb, rc, rd, re, rf, rg, rh⟩, hr⟩ : ∃ r, r = rounds (sched blk 64) s 64 := ⟨_, rfl⟩
      rw [← hr]
      have HRR := Lib.hid hr
      have hz7 : P4 < W7.heap.size := H47.out.lt
      clear ho7 hr
      simp only [Exit.inBlock, Exit.then]
      repeat (first | go_values | go_skip | go_guarded | go_step | go_upon)
      have hG : Arr (W7.alloc (.cells #[.int .u32 (ra : Int), .int .u32 (rb : Int), .int .u32 (rc : Int), .int .u32 (rd : Int), .int .u32 (re : Int), .int .u32 (rf : Int), .int .u32 (rg : Int), .int .u32 (rh : Int)] 49)) W7.heap.size 49 (u32s (Hs.words ⟨ra, rb, rc, rd, re, rf, rg, rh⟩)) := heap_alloc_new W7 _
      obtain ⟨W8, hW8⟩ : ∃ W, W = W7.alloc (.cells #[.int .u32 (ra : Int), .int .u32 (rb : Int), .int .u32 (rc : Int), .int .u32 (rd : Int), .int .u32 (re : Int), .int .u32 (rf : Int), .int .u32 (rg : Int), .int .u32 (rh : Int)] 49) := ⟨_, rfl⟩
      rw [← hW8] at hG ⊢
      have hb8 : Below W7.heap.size W7 W8 := by rw [hW8]; exact (Below.refl _ _).alloc (Nat.le_refl _) _
      have h48 : Arr W8 P4 50 (u32s s.words) := (hb8.block _ hz7).trans H47.out
      have HO8 : Hid (Only (fun k => k = wq.heap.size) wa W8) := Lib.hid (HO7.out.trans (only_beyond (S := fun _ => False) hb8) (fun _ _ h => h.elim))
      clear hW8 hb8
      refine loop7A (A := s.words) (B := Hs.words ⟨ra, rb, rc, rd, re, rf, rg, rh⟩) (C := (sumH s ⟨ra, rb, rc, rd, re, rf, rg, rh⟩).words) rfl rfl rfl (sum_words _ _) (by omega) h48 hG _ _ _ _ _ _ _ _ _ _ _ _ _ _ _ _ _ _ _ _ _ _ _ _ _ _ _ _ _ _ _ _ _ _ _ _ _ _ _ _ _ _ _ _ _ _ _ _ _ _ _ _ _ _ _ _ _ _ _ _ _ _ _ _ _ _ _ _ _ _ _ _ _ _ _ _ _ _ _ _ _ _ _ _ _ _ _ _ _ _ _ _ _ _ _ _ _ _ _ _ _ _ _ _ _ _ _ _ _ _ _ _ _ _ _ _ _ _ _ _ _ _ _ _ _ _ _ _ _ _ _ _ _ _ _ _ _ _ _ _ _ _ _ _ _ _ _ _ _ _ _ _ _ _ _ _ _ _ _ _ _ _ _ _ _ _ _ _ _ _ _ _ _ _ _ _ _ _ _ _ _ _ _ _ _ _ _ _ _ _ _ _ _ _ _ _ _ _ _ _ _ _ _ _ _ _ _ _ _ _ _ _ _ _ _ _ _ _ _ _ _ _ _ _ _ _ _ _ _ _ _ _ _ _ _ _ _ _ _ _ _ _ _ _ _ _ _ _ _ _ _ _ _ _ _ _ _ _ _ _ _ _ _ _ _ _ _ _ _ _ _ _ _ _ _ _ _ _ _ _ _ _ _ _ _ _ _ _ _ ?_
      intro _ _ _ _ _ _ _ _ _ _ _ _ _ _ W9 ⟨h49, ho9⟩
      have H49 := Lib.hid h49
      have HO9 : Hid (Only (fun k => k = P4) w W9) := Lib.hid (((HOq.out.trans (only_beyond (S := fun _ => False) HBA.out) (fun _ _ h => h.elim)).trans HO8.out (fun i hi h => by have h : i = wq.heap.size := h; omega)).trans ho9 (fun _ _ h => h))
      have HSE : Hid (foldB (q + 1) startH pb = sumH s ⟨ra, rb, rc, rd, re, rf, rg, rh⟩) := Lib.hid (by rw [HS.out, comp, ← HRR.out])
      have hc64 : 64 * m ≤ c := HADR.out
      have hm1 : 1 ≤ m := by omega
      have hle1 : (64 : Int) ≤ 64 * (m : Int) := by omega
      have hle2 : (64 : Int) ≤ c := by omega
      clear h49 ho9 hG h48
      simp only [Exit.inBlock, Exit.then]
      repeat (first | go_values | go_skip | go_guarded | go_step | go_upon)
      go_roundw
      case rel => exact ⟨q + 1, by omega, restC_next hlt (by rw [← hm]; exact HADR.out), by rw [HSE.out]; exact H49.out, HO9.out⟩
      case measure => simp only [lenC]; omega
    · obtain rfl : q = nb := by omega
      have t1 : decide ((0 : Int) < ((64 * (q - q) : Nat) : Int)) = false := by simp
      have e0 : 64 * (q - q) = 0 := by omega
      rw [e0]
      have HX := Lib.hid hexit
      have HO := Lib.hid ho
      have H4 := Lib.hid h4q
      clear h4q ho hadr hc h4 h5 hbyt hpb
      go_wp2
      unfold loop4X
      repeat apply Exists.intro
      exact ⟨⟨H4.out, HO.out⟩, rfl⟩

set_option maxHeartbeats 8000000 in
set_option maxRecDepth 1000000 in
/-- the same, the frame behind it in letters -/
theorem loop4A {pb : List Nat} {nb P4 P5 gm k8 : Nat} {w : World} {Q : Exit → Act → World → Prop} (hpl : pb.length = 64 * nb) (hpb : ∀ x ∈ pb, x < 256) (hbyt : BytesAt w gm 0 pb) (hP54 : ¬ P5 = P4) (hg4 : ¬ gm = P4) (hk8 : 64 * nb ≤ k8) (h4 : Arr w P4 50 (u32s startH.words)) (h5 : Arr w P5 51 (u32s keysL)) (c0 c1 c2 c3 c6 c7 c9 c10 c11 c12 c13 c14 c15 c16 c17 c18 c19 c20 c21 c22 c23 c24 c25 c26 c27 c28 c29 c30 c31 c32 c33 c34 c35 c36 c37 c38 c39 c40 c41 c42 c43 c44 c45 c46 c47 c48 c49 c50 c51 c52 c53 c54 c55 c56 c57 c58 c59 c60 c61 c62 c63 c64 c65 c66 c67 c68 c69 c70 c71 c72 c73 c74 c75 c76 c77 c78 c79 c80 c81 c82 c83 c84 c85 c86 c87 c88 c89 c90 c91 c92 c93 c94 c95 c96 c97 c98 c99 c100 c101 c102 c103 c104 c105 c106 c107 c108 c109 c110 c111 c112 c113 c114 c115 c116 c117 c118 c119 c120 c121 c122 c123 c124 c125 c126 c127 c128 c129 c130 c131 c132 c133 c134 c135 c136 c137 c138 c139 c140 c141 c142 c143 c144 c145 c146 c147 c148 c149 c150 c151 c152 c153 c154 c155 c156 c157 c158 c159 c160 c161 c162 c163 c164 c165 c166 c167 c168 c169 c170 c171 c172 c173 c174 c175 c176 c177 c178 c179 c180 c181 c182 c183 c184 c185 c186 c187 c188 c189 c190 c191 c192 c193 c194 c195 c196 c197 c198 c199 c200 c201 c202 c203 c204 c205 c206 c207 c208 c209 c210 c211 c212 c213 c214 c215 c216 c217 c218 c219 c220 c221 c222 c223 c224 c225 c226 c227 c228 c229 c230 c231 c232 c233 c234 c235 c236 c237 c238 c239 c240 c241 c242 c243 c244 c245 c246 c247 c248 c249 c250 c251 c252 c253 c254 c255 c256 c257 c258 c259 c260 c261 c262 c263 c264 c265 c266 c267 c268 c269 c270 c271 c272 c273 c274 c275 c276 c277 c278 c279 c280 c281 c282 c283 c284 c285 c286 c287 c288 c289 c290 c291 c292 : Value)
    (hexit : ∀ (u8 u11 u12 u13 u14 u15 u16 u17 u18 u19 u20 u21 u22 u23 u24 u25 u26 u27 u78 u79 u80 u81 u82 u83 u84 u85 u86 u87 u88 u89 u90 u91 u92 u93 u94 u95 u96 u97 u98 u99 u100 u101 u102 u103 u104 u105 u106 u107 u108 u109 u110 u111 u112 u113 u114 u115 u116 u117 u118 u119 u120 u121 u122 u123 u124 u125 u126 u127 u128 u129 u130 u131 u132 u133 u134 u135 u136 u137 u138 u139 u140 u141 u142 u143 u144 u145 u146 u147 u148 u149 u150 u151 u152 u153 u154 u155 u156 u157 u158 u159 u160 u161 u162 u163 u164 u165 u166 u167 u168 u169 u170 u171 u172 u173 u174 u175 u176 u177 u178 u179 u180 u181 u182 u183 u184 u185 u186 u187 u188 u189 u190 u191 u192 u193 u194 u195 u196 u197 u198 u199 u200 u201 u202 u203 u204 u205 u206 u207 u208 u209 u210 u211 u212 u213 u214 u215 u216 u217 u218 u219 u220 u221 u222 u223 u224 u225 u226 u227 u228 u229 u230 u231 u232 u233 u234 u235 u236 u237 u238 u239 u240 u241 u242 u243 u244 u245 u246 u247 u248 u249 u250 u251 u252 u253 u254 u255 u256 u257 u258 u259 u260 u261 u262 u263 u264 u265 u266 u267 u268 u269 u270 u271 u272 u273 u274 : Value) (w'' : World), (Arr w'' P4 50 (u32s (foldB nb startH pb).words) ∧ Only (fun k => k = P4) w w'') → Q (.exit 6) ⟨List.toArray (c0 :: c1 :: c2 :: c3 :: .pointer (some ⟨P4, 0, none⟩) :: .pointer (some ⟨P5, 0, none⟩) :: c6 :: c7 :: u8 :: c9 :: c10 :: u11 :: u12 :: u13 :: u14 :: u15 :: u16 :: u17 :: u18 :: u19 :: u20 :: u21 :: u22 :: u23 :: u24 :: u25 :: u26 :: u27 :: c28 :: c29 :: c30 :: c31 :: c32 :: c33 :: c34 :: c35 :: c36 :: c37 :: c38 :: c39 :: c40 :: c41 :: c42 :: c43 :: c44 :: c45 :: c46 :: c47 :: c48 :: c49 :: c50 :: c51 :: c52 :: c53 :: c54 :: c55 :: c56 :: c57 :: c58 :: c59 :: c60 :: c61 :: c62 :: c63 :: c64 :: c65 :: c66 :: c67 :: c68 :: c69 :: c70 :: c71 :: c72 :: c73 :: c74 :: c75 :: c76 :: c77 :: u78 :: u79 :: u80 :: u81 :: u82 :: u83 :: u84 :: u85 :: u86 :: u87 :: u88 :: u89 :: u90 :: u91 :: u92 :: u93 :: u94 :: u95 :: u96 :: u97 :: u98 :: u99 :: u100 :: u101 :: u102 :: u103 :: u104 :: u105 :: u106 :: u107 :: u108 :: u109 :: u110 :: u111 :: u112 :: u113 :: u114 :: u115 :: u116 :: u117 :: u118 :: u119 :: u120 :: u121 :: u122 :: u123 :: u124 :: u125 :: u126 :: u127 :: u128 :: u129 :: u130 :: u131 :: u132 :: u133 :: u134 :: u135 :: u136 :: u137 :: u138 :: u139 :: u140 :: u141 :: u142 :: u143 :: u144 :: u145 :: u146 :: u147 :: u148 :: u149 :: u150 :: u151 :: u152 :: u153 :: u154 :: u155 :: u156 :: u157 :: u158 :: u159 :: u160 :: u161 :: u162 :: u163 :: u164 :: u165 :: u166 :: u167 :: u168 :: u169 :: u170 :: u171 :: u172 :: u173 :: u174 :: u175 :: u176 :: u177 :: u178 :: u179 :: u180 :: u181 :: u182 :: u183 :: u184 :: u185 :: u186 :: u187 :: u188 :: u189 :: u190 :: u191 :: u192 :: u193 :: u194 :: u195 :: u196 :: u197 :: u198 :: u199 :: u200 :: u201 :: u202 :: u203 :: u204 :: u205 :: u206 :: u207 :: u208 :: u209 :: u210 :: u211 :: u212 :: u213 :: u214 :: u215 :: u216 :: u217 :: u218 :: u219 :: u220 :: u221 :: u222 :: u223 :: u224 :: u225 :: u226 :: u227 :: u228 :: u229 :: u230 :: u231 :: u232 :: u233 :: u234 :: u235 :: u236 :: u237 :: u238 :: u239 :: u240 :: u241 :: u242 :: u243 :: u244 :: u245 :: u246 :: u247 :: u248 :: u249 :: u250 :: u251 :: u252 :: u253 :: u254 :: u255 :: u256 :: u257 :: u258 :: u259 :: u260 :: u261 :: u262 :: u263 :: u264 :: u265 :: u266 :: u267 :: u268 :: u269 :: u270 :: u271 :: u272 :: u273 :: u274 :: c275 :: c276 :: c277 :: c278 :: c279 :: c280 :: c281 :: c282 :: c283 :: c284 :: c285 :: c286 :: c287 :: c288 :: c289 :: c290 :: c291 :: c292 :: []), []⟩ w'') : Code.wp Tryd.prog loop4C Q ⟨List.toArray (c0 :: c1 :: c2 :: c3 :: .pointer (some ⟨P4, 0, none⟩) :: .pointer (some ⟨P5, 0, none⟩) :: c6 :: c7 :: .slice (some ⟨gm, 0, none⟩) (64 * nb) k8 :: c9 :: c10 :: c11 :: c12 :: c13 :: c14 :: c15 :: c16 :: c17 :: c18 :: c19 :: c20 :: c21 :: c22 :: c23 :: c24 :: c25 :: c26 :: c27 :: c28 :: c29 :: c30 :: c31 :: c32 :: c33 :: c34 :: c35 :: c36 :: c37 :: c38 :: c39 :: c40 :: c41 :: c42 :: c43 :: c44 :: c45 :: c46 :: c47 :: c48 :: c49 :: c50 :: c51 :: c52 :: c53 :: c54 :: c55 :: c56 :: c57 :: c58 :: c59 :: c60 :: c61 :: c62 :: c63 :: c64 :: c65 :: c66 :: c67 :: c68 :: c69 :: c70 :: c71 :: c72 :: c73 :: c74 :: c75 :: c76 :: c77 :: c78 :: c79 :: c80 :: c81 :: c82 :: c83 :: c84 :: c85 :: c86 :: c87 :: c88 :: c89 :: c90 :: c91 :: c92 :: c93 :: c94 :: c95 :: c96 :: c97 :: c98 :: c99 :: c100 :: c101 :: c102 :: c103 :: c104 :: c105 :: c106 :: c107 :: c108 :: c109 :: c110 :: c111 :: c112 :: c113 :: c114 :: c115 :: c116 :: c117 :: c118 :: c119 :: c120 :: c121 :: c122 :: c123 :: c124 :: c125 :: c126 :: c127 :: c128 :: c129 :: c130 :: c131 :: c132 :: c133 :: c134 :: c135 :: c136 :: c137 :: c138 :: c139 :: c140 :: c141 :: c142 :: c143 :: c144 :: c145 :: c146 :: c147 :: c148 :: c149 :: c150 :: c151 :: c152 :: c153 :: c154 :: c155 :: c156 :: c157 :: c158 :: c159 :: c160 :: c161 :: c162 :: c163 :: c164 :: c165 :: c166 :: c167 :: c168 :: c169 :: c170 :: c171 :: c172 :: c173 :: c174 :: c175 :: c176 :: c177 :: c178 :: c179 :: c180 :: c181 :: c182 :: c183 :: c184 :: c185 :: c186 :: c187 :: c188 :: c189 :: c190 :: c191 :: c192 :: c193 :: c194 :: c195 :: c196 :: c197 :: c198 :: c199 :: c200 :: c201 :: c202 :: c203 :: c204 :: c205 :: c206 :: c207 :: c208 :: c209 :: c210 :: c211 :: c212 :: c213 :: c214 :: c215 :: c216 :: c217 :: c218 :: c219 :: c220 :: c221 :: c222 :: c223 :: c224 :: c225 :: c226 :: c227 :: c228 :: c229 :: c230 :: c231 :: c232 :: c233 :: c234 :: c235 :: c236 :: c237 :: c238 :: c239 :: c240 :: c241 :: c242 :: c243 :: c244 :: c245 :: c246 :: c247 :: c248 :: c249 :: c250 :: c251 :: c252 :: c253 :: c254 :: c255 :: c256 :: c257 :: c258 :: c259 :: c260 :: c261 :: c262 :: c263 :: c264 :: c265 :: c266 :: c267 :: c268 :: c269 :: c270 :: c271 :: c272 :: c273 :: c274 :: c275 :: c276 :: c277 :: c278 :: c279 :: c280 :: c281 :: c282 :: c283 :: c284 :: c285 :: c286 :: c287 :: c288 :: c289 :: c290 :: c291 :: c292 :: []), []⟩ w :=
  loop4 hpl hpb hbyt hP54 hg4 hk8 h4 h5 c0 c1 c2 c3 c6 c7 c9 c10 c11 c12 c13 c14 c15 c16 c17 c18 c19 c20 c21 c22 c23 c24 c25 c26 c27 c28 c29 c30 c31 c32 c33 c34 c35 c36 c37 c38 c39 c40 c41 c42 c43 c44 c45 c46 c47 c48 c49 c50 c51 c52 c53 c54 c55 c56 c57 c58 c59 c60 c61 c62 c63 c64 c65 c66 c67 c68 c69 c70 c71 c72 c73 c74 c75 c76 c77 c78 c79 c80 c81 c82 c83 c84 c85 c86 c87 c88 c89 c90 c91 c92 c93 c94 c95 c96 c97 c98 c99 c100 c101 c102 c103 c104 c105 c106 c107 c108 c109 c110 c111 c112 c113 c114 c115 c116 c117 c118 c119 c120 c121 c122 c123 c124 c125 c126 c127 c128 c129 c130 c131 c132 c133 c134 c135 c136 c137 c138 c139 c140 c141 c142 c143 c144 c145 c146 c147 c148 c149 c150 c151 c152 c153 c154 c155 c156 c157 c158 c159 c160 c161 c162 c163 c164 c165 c166 c167 c168 c169 c170 c171 c172 c173 c174 c175 c176 c177 c178 c179 c180 c181 c182 c183 c184 c185 c186 c187 c188 c189 c190 c191 c192 c193 c194 c195 c196 c197 c198 c199 c200 c201 c202 c203 c204 c205 c206 c207 c208 c209 c210 c211 c212 c213 c214 c215 c216 c217 c218 c219 c220 c221 c222 c223 c224 c225 c226 c227 c228 c229 c230 c231 c232 c233 c234 c235 c236 c237 c238 c239 c240 c241 c242 c243 c244 c245 c246 c247 c248 c249 c250 c251 c252 c253 c254 c255 c256 c257 c258 c259 c260 c261 c262 c263 c264 c265 c266 c267 c268 c269 c270 c271 c272 c273 c274 c275 c276 c277 c278 c279 c280 c281 c282 c283 c284 c285 c286 c287 c288 c289 c290 c291 c292 fun a' w'' hX => by
    unfold loop4X at hX
    obtain ⟨u8, hX⟩ := hX
    obtain ⟨u11, hX⟩ := hX
    obtain ⟨u12, hX⟩ := hX
    obtain ⟨u13, hX⟩ := hX
    obtain ⟨u14, hX⟩ := hX
    obtain ⟨u15, hX⟩ := hX
    obtain ⟨u16, hX⟩ := hX
    obtain ⟨u17, hX⟩ := hX
    obtain ⟨u18, hX⟩ := hX
    obtain ⟨u19, hX⟩ := hX
    obtain ⟨u20, hX⟩ := hX
    obtain ⟨u21, hX⟩ := hX
    obtain ⟨u22, hX⟩ := hX
    obtain ⟨u23, hX⟩ := hX
    obtain ⟨u24, hX⟩ := hX
    obtain ⟨u25, hX⟩ := hX
    obtain ⟨u26, hX⟩ := hX
    obtain ⟨u27, hX⟩ := hX
    obtain ⟨u78, hX⟩ := hX
    obtain ⟨u79, hX⟩ := hX
    obtain ⟨u80, hX⟩ := hX
    obtain ⟨u81, hX⟩ := hX
    obtain ⟨u82, hX⟩ := hX
    obtain ⟨u83, hX⟩ := hX
    obtain ⟨u84, hX⟩ := hX
    obtain ⟨u85, hX⟩ := hX
    obtain ⟨u86, hX⟩ := hX
    obtain ⟨u87, hX⟩ := hX
    obtain ⟨u88, hX⟩ := hX
    obtain ⟨u89, hX⟩ := hX
    obtain ⟨u90, hX⟩ := hX
    obtain ⟨u91, hX⟩ := hX
    obtain ⟨u92, hX⟩ := hX
    obtain ⟨u93, hX⟩ := hX
    obtain ⟨u94, hX⟩ := hX
    obtain ⟨u95, hX⟩ := hX
    obtain ⟨u96, hX⟩ := hX
    obtain ⟨u97, hX⟩ := hX
    obtain ⟨u98, hX⟩ := hX
    obtain ⟨u99, hX⟩ := hX
    obtain ⟨u100, hX⟩ := hX
    obtain ⟨u101, hX⟩ := hX
    obtain ⟨u102, hX⟩ := hX
    obtain ⟨u103, hX⟩ := hX
    obtain ⟨u104, hX⟩ := hX
    obtain ⟨u105, hX⟩ := hX
    obtain ⟨u106, hX⟩ := hX
    obtain ⟨u107, hX⟩ := hX
    obtain ⟨u108, hX⟩ := hX
    obtain ⟨u109, hX⟩ := hX
    obtain ⟨u110, hX⟩ := hX
    obtain ⟨u111, hX⟩ := hX
    obtain ⟨u112, hX⟩ := hX
    obtain ⟨u113, hX⟩ := hX
    obtain ⟨u114, hX⟩ := hX
    obtain ⟨u115, hX⟩ := hX
    obtain ⟨u116, hX⟩ := hX
    obtain ⟨u117, hX⟩ := hX
    obtain ⟨u118, hX⟩ := hX
    obtain ⟨u119, hX⟩ := hX
    obtain ⟨u120, hX⟩ := hX
    obtain ⟨u121, hX⟩ := hX
    obtain ⟨u122, hX⟩ := hX
    obtain ⟨u123, hX⟩ := hX
    obtain ⟨u124, hX⟩ := hX
    obtain ⟨u125, hX⟩ := hX
    obtain ⟨u126, hX⟩ := hX
    obtain ⟨u127, hX⟩ := hX
    obtain ⟨u128, hX⟩ := hX
    obtain ⟨u129, hX⟩ := hX
    obtain ⟨u130, hX⟩ := hX
    obtain ⟨u131, hX⟩ := hX
    obtain ⟨u132, hX⟩ := hX
    obtain ⟨u133, hX⟩ := hX
    obtain ⟨u134, hX⟩ := hX
    obtain ⟨u135, hX⟩ := hX
    obtain ⟨u136, hX⟩ := hX
    obtain ⟨u137, hX⟩ := hX
    obtain ⟨u138, hX⟩ := hX
    obtain ⟨u139, hX⟩ := hX
    obtain ⟨u140, hX⟩ := hX
    obtain ⟨u141, hX⟩ := hX
    obtain ⟨u142, hX⟩ := hX
    obtain ⟨u143, hX⟩ := hX
    obtain ⟨u144, hX⟩ := hX
    obtain ⟨u145, hX⟩ := hX
    obtain ⟨u146, hX⟩ := hX
    obtain ⟨u147, hX⟩ := hX
    obtain ⟨u148, hX⟩ := hX
    obtain ⟨u149, hX⟩ := hX
    obtain ⟨u150, hX⟩ := hX
    obtain ⟨u151, hX⟩ := hX
    obtain ⟨u152, hX⟩ := hX
    obtain ⟨u153, hX⟩ := hX
    obtain ⟨u154, hX⟩ := hX
    obtain ⟨u155, hX⟩ := hX
    obtain ⟨u156, hX⟩ := hX
    obtain ⟨u157, hX⟩ := hX
    obtain ⟨u158, hX⟩ := hX
    obtain ⟨u159, hX⟩ := hX
    obtain ⟨u160, hX⟩ := hX
    obtain ⟨u161, hX⟩ := hX
    obtain ⟨u162, hX⟩ := hX
    obtain ⟨u163, hX⟩ := hX
    obtain ⟨u164, hX⟩ := hX
    obtain ⟨u165, hX⟩ := hX
    obtain ⟨u166, hX⟩ := hX
    obtain ⟨u167, hX⟩ := hX
    obtain ⟨u168, hX⟩ := hX
    obtain ⟨u169, hX⟩ := hX
    obtain ⟨u170, hX⟩ := hX
    obtain ⟨u171, hX⟩ := hX
    obtain ⟨u172, hX⟩ := hX
    obtain ⟨u173, hX⟩ := hX
    obtain ⟨u174, hX⟩ := hX
    obtain ⟨u175, hX⟩ := hX
    obtain ⟨u176, hX⟩ := hX
    obtain ⟨u177, hX⟩ := hX
    obtain ⟨u178, hX⟩ := hX
    obtain ⟨u179, hX⟩ := hX
    obtain ⟨u180, hX⟩ := hX
    obtain ⟨u181, hX⟩ := hX
    obtain ⟨u182, hX⟩ := hX
    obtain ⟨u183, hX⟩ := hX
    obtain ⟨u184, hX⟩ := hX
    obtain ⟨u185, hX⟩ := hX
    obtain ⟨u186, hX⟩ := hX
    obtain ⟨u187, hX⟩ := hX
    obtain ⟨u188, hX⟩ := hX
    obtain ⟨u189, hX⟩ := hX
    obtain ⟨u190, hX⟩ := hX
    obtain ⟨u191, hX⟩ := hX
    obtain ⟨u192, hX⟩ := hX
    obtain ⟨u193, hX⟩ := hX
    obtain ⟨u194, hX⟩ := hX
    obtain ⟨u195, hX⟩ := hX
    obtain ⟨u196, hX⟩ := hX
    obtain ⟨u197, hX⟩ := hX
    obtain ⟨u198, hX⟩ := hX
    obtain ⟨u199, hX⟩ := hX
    obtain ⟨u200, hX⟩ := hX
    obtain ⟨u201, hX⟩ := hX
    obtain ⟨u202, hX⟩ := hX
    obtain ⟨u203, hX⟩ := hX
    obtain ⟨u204, hX⟩ := hX
    obtain ⟨u205, hX⟩ := hX
    obtain ⟨u206, hX⟩ := hX
    obtain ⟨u207, hX⟩ := hX
    obtain ⟨u208, hX⟩ := hX
    obtain ⟨u209, hX⟩ := hX
    obtain ⟨u210, hX⟩ := hX
    obtain ⟨u211, hX⟩ := hX
    obtain ⟨u212, hX⟩ := hX
    obtain ⟨u213, hX⟩ := hX
    obtain ⟨u214, hX⟩ := hX
    obtain ⟨u215, hX⟩ := hX
    obtain ⟨u216, hX⟩ := hX
    obtain ⟨u217, hX⟩ := hX
    obtain ⟨u218, hX⟩ := hX
    obtain ⟨u219, hX⟩ := hX
    obtain ⟨u220, hX⟩ := hX
    obtain ⟨u221, hX⟩ := hX
    obtain ⟨u222, hX⟩ := hX
    obtain ⟨u223, hX⟩ := hX
    obtain ⟨u224, hX⟩ := hX
    obtain ⟨u225, hX⟩ := hX
    obtain ⟨u226, hX⟩ := hX
    obtain ⟨u227, hX⟩ := hX
    obtain ⟨u228, hX⟩ := hX
    obtain ⟨u229, hX⟩ := hX
    obtain ⟨u230, hX⟩ := hX
    obtain ⟨u231, hX⟩ := hX
    obtain ⟨u232, hX⟩ := hX
    obtain ⟨u233, hX⟩ := hX
    obtain ⟨u234, hX⟩ := hX
    obtain ⟨u235, hX⟩ := hX
    obtain ⟨u236, hX⟩ := hX
    obtain ⟨u237, hX⟩ := hX
    obtain ⟨u238, hX⟩ := hX
    obtain ⟨u239, hX⟩ := hX
    obtain ⟨u240, hX⟩ := hX
    obtain ⟨u241, hX⟩ := hX
    obtain ⟨u242, hX⟩ := hX
    obtain ⟨u243, hX⟩ := hX
    obtain ⟨u244, hX⟩ := hX
    obtain ⟨u245, hX⟩ := hX
    obtain ⟨u246, hX⟩ := hX
    obtain ⟨u247, hX⟩ := hX
    obtain ⟨u248, hX⟩ := hX
    obtain ⟨u249, hX⟩ := hX
    obtain ⟨u250, hX⟩ := hX
    obtain ⟨u251, hX⟩ := hX
    obtain ⟨u252, hX⟩ := hX
    obtain ⟨u253, hX⟩ := hX
    obtain ⟨u254, hX⟩ := hX
    obtain ⟨u255, hX⟩ := hX
    obtain ⟨u256, hX⟩ := hX
    obtain ⟨u257, hX⟩ := hX
    obtain ⟨u258, hX⟩ := hX
    obtain ⟨u259, hX⟩ := hX
    obtain ⟨u260, hX⟩ := hX
    obtain ⟨u261, hX⟩ := hX
    obtain ⟨u262, hX⟩ := hX
    obtain ⟨u263, hX⟩ := hX
    obtain ⟨u264, hX⟩ := hX
    obtain ⟨u265, hX⟩ := hX
    obtain ⟨u266, hX⟩ := hX
    obtain ⟨u267, hX⟩ := hX
    obtain ⟨u268, hX⟩ := hX
    obtain ⟨u269, hX⟩ := hX
    obtain ⟨u270, hX⟩ := hX
    obtain ⟨u271, hX⟩ := hX
    obtain ⟨u272, hX⟩ := hX
    obtain ⟨u273, hX⟩ := hX
    obtain ⟨u274, hX⟩ := hX
    obtain ⟨hr, ha⟩ := hX
    rw [ha]
    exact hexit u8 u11 u12 u13 u14 u15 u16 u17 u18 u19 u20 u21 u22 u23 u24 u25 u26 u27 u78 u79 u80 u81 u82 u83 u84 u85 u86 u87 u88 u89 u90 u91 u92 u93 u94 u95 u96 u97 u98 u99 u100 u101 u102 u103 u104 u105 u106 u107 u108 u109 u110 u111 u112 u113 u114 u115 u116 u117 u118 u119 u120 u121 u122 u123 u124 u125 u126 u127 u128 u129 u130 u131 u132 u133 u134 u135 u136 u137 u138 u139 u140 u141 u142 u143 u144 u145 u146 u147 u148 u149 u150 u151 u152 u153 u154 u155 u156 u157 u158 u159 u160 u161 u162 u163 u164 u165 u166 u167 u168 u169 u170 u171 u172 u173 u174 u175 u176 u177 u178 u179 u180 u181 u182 u183 u184 u185 u186 u187 u188 u189 u190 u191 u192 u193 u194 u195 u196 u197 u198 u199 u200 u201 u202 u203 u204 u205 u206 u207 u208 u209 u210 u211 u212 u213 u214 u215 u216 u217 u218 u219 u220 u221 u222 u223 u224 u225 u226 u227 u228 u229 u230 u231 u232 u233 u234 u235 u236 u237 u238 u239 u240 u241 u242 u243 u244 u245 u246 u247 u248 u249 u250 u251 u252 u253 u254 u255 u256 u257 u258 u259 u260 u261 u262 u263 u264 u265 u266 u267 u268 u269 u270 u271 u272 u273 u274 w'' hr
end Go.Proofs.YtfbnnhailnbmiaaDoor
