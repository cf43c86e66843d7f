/- HoldPlays: what one that is added is to be answered; the law's own list. HoldPlays: one is added. Written by py/hold-plays.py. -/
import Derived.Test.YtphgkkdpdiiioaaHpNav
import Derived.Test.YtphgkkdpdiiioaaHoLaw
import Derived.Test.YtphgkkdpdiiioaaNmRight
import Derived.Test.YtphgkkdpdiiioaaHoNam
import Derived.Test.YtphgkkdpdiiioaaHoAddY
import Derived.Deep.CutBlock
namespace Go.Proofs.Ytphgkkdpdiiioaa
open Go.RowKit Go.Shelf

set_option maxHeartbeats 16000000 in
set_option maxRecDepth 1000000 in
theorem hpB5 {w W : World} {q7 q8 q10 p : Nat} {ra rb t : Int} {s : ByteArray} {b : Option Nat} {m : List Hld} {v : Value} {ds : List Deferred} {Q : Exit → Act → World → Prop} {q13 : Nat} {x : Hld}
    (HP : Hid (PSt w q7 q8 q10 p ra rb b m m v ds W)) (HX : Hid (Arr W q13 30 x.cells ∧ v.ownBlock ≠ some q13)) (HZ : Hid (x.name.size ≤ 60 ∧ x.ser.size ≤ 60)) (c0 c3 c4 c5 c6 c11 c12 c16 c17 c18 c19 c20 c21 c22 c23 c24 c25 c26 c27 c28 c29 c30 c31 c32 c33 c34 c35 c36 c37 c38 c39 c40 c41 c42 c43 c44 c45 c46 c47 c48 c49 c50 c51 c52 c53 c54 c55 c56 c57 c58 c59 c60 c61 c62 c63 c64 c65 c66 c67 c68 c69 c70 c71 c72 c73 c74 c75 c76 c77 c78 c79 c80 c81 c82 c83 c84 c85 c86 c87 c88 c89 c90 c91 c92 c93 c94 c95 c96 c97 c98 c99 c100 c101 c102 c103 c104 c105 c106 c107 c108 c109 c110 c111 c112 c113 c114 c115 c116 c117 c118 c119 c120 c121 c122 c123 c124 c125 c126 c127 c128 c129 c130 c131 c132 c133 c134 c135 c136 c137 c138 c139 c140 c141 c142 c143 c144 c145 c146 c147 c148 c149 c150 c151 c152 c153 c154 c155 c156 c157 c158 c159 c160 c161 c162 c163 c164 c165 c166 c167 c168 c169 c170 c171 c172 c173 c174 c175 c176 c177 c178 c179 c180 c181 c182 c183 c184 c185 c186 c187 c188 c189 c190 c191 c192 c193 c194 c195 c196 c197 c198 c199 c200 c201 c202 c203 c204 c205 c206 c207 c208 c209 c210 c211 c212 c213 c214 c215 c216 c217 c218 c219 c220 c221 c222 c223 c224 c225 c226 c227 c228 c229 c230 c231 c232 c233 c234 c235 c236 c237 c238 c239 c240 c241 c242 c243 c244 c245 c246 c247 c248 c249 c250 c251 c252 c253 c254 c255 : Value)
    (HN : Hid (∀ (v' : Value) (W' : World) (u88 u89 u90 u91 u92 u93 u94 u95 u96 u97 u98 u99 u100 u101 u102 u103 u104 u105 u106 u107 u108 u109 u110 u111 u112 u113 u114 u115 u116 u117 u118 u119 : Value), PSt w q7 q8 q10 p ra rb b (addM m x) m v' ds W' ∧ Arr W' q13 30 x.cells → Q .normal ⟨List.toArray (c0 :: .string s :: .int .i64 t :: c3 :: c4 :: c5 :: c6 :: .pointer (some ⟨q7, 0, none⟩) :: .pointer (some ⟨q8, 0, none⟩) :: .pointer (some ⟨p, 0, none⟩) :: .pointer (some ⟨q10, 0, none⟩) :: c11 :: c12 :: .pointer (some ⟨q13, 0, none⟩) :: .int .i64 (findH m x.name) :: .int .i64 (addE m x) :: c16 :: c17 :: c18 :: c19 :: c20 :: c21 :: c22 :: c23 :: c24 :: c25 :: c26 :: c27 :: c28 :: c29 :: c30 :: c31 :: c32 :: c33 :: c34 :: c35 :: c36 :: c37 :: c38 :: c39 :: c40 :: c41 :: c42 :: c43 :: c44 :: c45 :: c46 :: c47 :: c48 :: c49 :: c50 :: c51 :: c52 :: c53 :: c54 :: c55 :: c56 :: c57 :: c58 :: c59 :: c60 :: c61 :: c62 :: c63 :: c64 :: c65 :: c66 :: c67 :: c68 :: c69 :: c70 :: c71 :: c72 :: c73 :: c74 :: c75 :: c76 :: c77 :: c78 :: c79 :: c80 :: c81 :: c82 :: c83 :: c84 :: c85 :: c86 :: c87 :: u88 :: u89 :: u90 :: u91 :: u92 :: u93 :: u94 :: u95 :: u96 :: u97 :: u98 :: u99 :: u100 :: u101 :: u102 :: u103 :: u104 :: u105 :: u106 :: u107 :: u108 :: u109 :: u110 :: u111 :: u112 :: u113 :: u114 :: u115 :: u116 :: u117 :: u118 :: u119 :: c120 :: c121 :: c122 :: c123 :: c124 :: c125 :: c126 :: c127 :: c128 :: c129 :: c130 :: c131 :: c132 :: c133 :: c134 :: c135 :: c136 :: c137 :: c138 :: c139 :: c140 :: c141 :: c142 :: c143 :: c144 :: c145 :: c146 :: c147 :: c148 :: c149 :: c150 :: c151 :: c152 :: c153 :: c154 :: c155 :: c156 :: c157 :: c158 :: c159 :: c160 :: c161 :: c162 :: c163 :: c164 :: c165 :: c166 :: c167 :: c168 :: c169 :: c170 :: c171 :: c172 :: c173 :: c174 :: c175 :: c176 :: c177 :: c178 :: c179 :: c180 :: c181 :: c182 :: c183 :: c184 :: c185 :: c186 :: c187 :: c188 :: c189 :: c190 :: c191 :: c192 :: c193 :: c194 :: c195 :: c196 :: c197 :: c198 :: c199 :: c200 :: c201 :: c202 :: c203 :: c204 :: c205 :: c206 :: c207 :: c208 :: c209 :: c210 :: c211 :: c212 :: c213 :: c214 :: c215 :: c216 :: c217 :: c218 :: c219 :: c220 :: c221 :: c222 :: c223 :: c224 :: c225 :: c226 :: c227 :: c228 :: c229 :: c230 :: c231 :: c232 :: c233 :: c234 :: c235 :: c236 :: c237 :: c238 :: c239 :: c240 :: c241 :: c242 :: c243 :: c244 :: c245 :: c246 :: c247 :: c248 :: c249 :: c250 :: c251 :: c252 :: c253 :: c254 :: c255 :: []), ds⟩ W')) : Code.wp Try.prog (hpBlk 5) Q ⟨List.toArray (c0 :: .string s :: .int .i64 t :: c3 :: c4 :: c5 :: c6 :: .pointer (some ⟨q7, 0, none⟩) :: .pointer (some ⟨q8, 0, none⟩) :: .pointer (some ⟨p, 0, none⟩) :: .pointer (some ⟨q10, 0, none⟩) :: c11 :: c12 :: .pointer (some ⟨q13, 0, none⟩) :: .int .i64 (findH m x.name) :: .int .i64 0 :: c16 :: c17 :: c18 :: c19 :: c20 :: c21 :: c22 :: c23 :: c24 :: c25 :: c26 :: c27 :: c28 :: c29 :: c30 :: c31 :: c32 :: c33 :: c34 :: c35 :: c36 :: c37 :: c38 :: c39 :: c40 :: c41 :: c42 :: c43 :: c44 :: c45 :: c46 :: c47 :: c48 :: c49 :: c50 :: c51 :: c52 :: c53 :: c54 :: c55 :: c56 :: c57 :: c58 :: c59 :: c60 :: c61 :: c62 :: c63 :: c64 :: c65 :: c66 :: c67 :: c68 :: c69 :: c70 :: c71 :: c72 :: c73 :: c74 :: c75 :: c76 :: c77 :: c78 :: c79 :: c80 :: c81 :: c82 :: c83 :: c84 :: c85 :: c86 :: c87 :: c88 :: c89 :: c90 :: c91 :: c92 :: c93 :: c94 :: c95 :: c96 :: c97 :: c98 :: c99 :: c100 :: c101 :: c102 :: c103 :: c104 :: c105 :: c106 :: c107 :: c108 :: c109 :: c110 :: c111 :: c112 :: c113 :: c114 :: c115 :: c116 :: c117 :: c118 :: c119 :: c120 :: c121 :: c122 :: c123 :: c124 :: c125 :: c126 :: c127 :: c128 :: c129 :: c130 :: c131 :: c132 :: c133 :: c134 :: c135 :: c136 :: c137 :: c138 :: c139 :: c140 :: c141 :: c142 :: c143 :: c144 :: c145 :: c146 :: c147 :: c148 :: c149 :: c150 :: c151 :: c152 :: c153 :: c154 :: c155 :: c156 :: c157 :: c158 :: c159 :: c160 :: c161 :: c162 :: c163 :: c164 :: c165 :: c166 :: c167 :: c168 :: c169 :: c170 :: c171 :: c172 :: c173 :: c174 :: c175 :: c176 :: c177 :: c178 :: c179 :: c180 :: c181 :: c182 :: c183 :: c184 :: c185 :: c186 :: c187 :: c188 :: c189 :: c190 :: c191 :: c192 :: c193 :: c194 :: c195 :: c196 :: c197 :: c198 :: c199 :: c200 :: c201 :: c202 :: c203 :: c204 :: c205 :: c206 :: c207 :: c208 :: c209 :: c210 :: c211 :: c212 :: c213 :: c214 :: c215 :: c216 :: c217 :: c218 :: c219 :: c220 :: c221 :: c222 :: c223 :: c224 :: c225 :: c226 :: c227 :: c228 :: c229 :: c230 :: c231 :: c232 :: c233 :: c234 :: c235 :: c236 :: c237 :: c238 :: c239 :: c240 :: c241 :: c242 :: c243 :: c244 :: c245 :: c246 :: c247 :: c248 :: c249 :: c250 :: c251 :: c252 :: c253 :: c254 :: c255 :: []), ds⟩ W := by
  conv => arg 2; whnf
  have hmax : maxLen = 9223372036854775807 := rfl
  have H1 : Hid (∀ W, Calls Try.prog 9 #[.string x.name] W fun e w' => e = .returned (.bool (rightN (ordsOf x.name))) ∧ w' = W) := Lib.hid fun W => nmdoc_any W x.name (by have := HZ.out.1; omega)
  have H2 : Hid (∀ W, Calls Try.prog 9 #[.string x.ser] W fun e w' => e = .returned (.bool (rightN (ordsOf x.ser))) ∧ w' = W) := Lib.hid fun W => nmdoc_any W x.ser (by have := HZ.out.2; omega)
  have H3 : Hid (∀ W, Calls Try.prog 10 #[.agg #[.int .i64 x.a, .int .i64 x.b]] W fun e w' => e = .returned (.bool (rightR x.a x.b)) ∧ Below W.heap.size W w') := Lib.hid fun W => holright_any W x.a x.b
  have HAE : Hid (addE m x = if (rightN (ordsOf x.name) && (decide (x.ser.size = 0) || rightN (ordsOf x.ser))) = false then 15 else if rightR x.a x.b = false then 3 else if hasH m x.name = true then 8 else if 16 ≤ m.length then 6 else 0) := Lib.hid rfl
  have HNO : Hid (addE m x ≠ 0 → addM m x = m) := Lib.hid fun h => if_neg h
  have HYS : Hid (addE m x = 0 → addM m x = m ++ [x]) := Lib.hid fun h => if_pos h
  have te := size_empty x.ser
  have hF : decide (0 ≤ findH m x.name) = hasH m x.name := by
    cases hh : hasH m x.name with
    | true => obtain ⟨k, y, _, _, h4⟩ := findH_has hh; rw [h4]; simp
    | false => rw [findH_no hh]; rfl
  have x0 := HX.out.1.cell (i := 0) rfl
  have x1 := HX.out.1.cell (i := 1) rfl
  have x2 := HX.out.1.cell (i := 2) rfl
  have x3 := HX.out.1.cell (i := 3) rfl
  obtain ⟨va, vc, ev⟩ := own_slice HP.out.row
  subst ev
  obtain ⟨d0, f0⟩ := HP.out.cell
  have hL16 : m.length ≤ 16 := HP.out.tst.tab.few
  obtain ⟨F, hFF⟩ : ∃ F, F = findH m x.name := ⟨_, rfl⟩
  obtain ⟨G, hG⟩ : ∃ G, G = hasH m x.name := ⟨_, rfl⟩
  obtain ⟨E, hE⟩ : ∃ E, E = decide (x.ser.size = 0) := ⟨_, rfl⟩
  obtain ⟨RN, hRN⟩ : ∃ R, R = rightN (ordsOf x.name) := ⟨_, rfl⟩
  obtain ⟨RS, hRS⟩ : ∃ R, R = rightN (ordsOf x.ser) := ⟨_, rfl⟩
  obtain ⟨R, hR⟩ : ∃ R, R = rightR x.a x.b := ⟨_, rfl⟩
  rw [← hFF, ← hG] at hF
  rw [← hFF] at HN ⊢
  rw [← hG, ← hE, ← hRN, ← hRS, ← hR] at HAE
  rw [← hE] at te
  rw [← hRN] at H1
  rw [← hRS] at H2
  rw [← hR] at H3
  have tn : (x.ser.toList != ([] : List UInt8)) = !E := by rw [← te]; rfl
  have HIN : Hid (W.heap.size = W.heap.size) := Lib.hid rfl
  clear hFF hG hE hRN hRS hR hmax HZ
  have HXA := Lib.hid HX.out.1
  have HNE : Hid (¬ (Value.slice va m.length vc).ownBlock = some q13) := Lib.hid HX.out.2
  have HNQ : Hid (¬ q13 = q10) := Lib.hid (fun e => by have h1 := HX.out.1; have h2 := HP.out.box; unfold Arr at h1; rw [e, h2] at h1; cases h1)
  obtain ⟨nm, se, xa, xb⟩ := x
  dsimp only at *
  cases RN with
  | false =>
    have ha : addE m ⟨nm, se, xa, xb⟩ = 15 := by rw [HAE.out]; rfl
    have hm := HNO.out (by rw [ha]; decide)
    rw [ha, hm] at HN
    clear ha hm
    go_wp2_with (first | (go_at_call 9; with_reducible refine (H1.out _).mono ?_; clear H1; rintro e W1 ⟨rfl, hw⟩; replace hw := hw.symm; subst hw))
    exact HN.out _ _ _ _ _ _ _ _ _ _ _ _ _ _ _ _ _ _ _ _ _ _ _ _ _ _ _ _ _ _ _ _ _ _ ⟨HP.out, HXA.out⟩
  | true =>
    cases E with
    | true =>
      cases R with
      | false =>
        have ha : addE m ⟨nm, se, xa, xb⟩ = 3 := by rw [HAE.out]; rfl
        have hm := HNO.out (by rw [ha]; decide)
        rw [ha, hm] at HN
        clear ha hm
        go_wp2_with (first | (go_at_call 9; with_reducible refine (H1.out _).mono ?_; clear H1; rintro e W1 ⟨rfl, hw⟩; replace hw := hw.symm; subst hw) | (go_at_call 10; refine (H3.out _).mono ?_; clear H3; rintro e W2 ⟨rfl, hb2⟩; have HP2 := Lib.hid (HP.out.beyond hb2); have HX2 : Hid (Arr W2 q13 30 [.string nm, .string se, .int .i64 xa, .int .i64 xb]) := Lib.hid ((hb2.block _ (lt_of_block HXA.out)).trans HXA.out); have y0 := HX2.out.cell (i := 0) rfl; have y1 := HX2.out.cell (i := 1) rfl; have y2 := HX2.out.cell (i := 2) rfl; have y3 := HX2.out.cell (i := 3) rfl; obtain ⟨d02, f02⟩ := HP2.out.cell; clear hb2))
        exact HN.out _ _ _ _ _ _ _ _ _ _ _ _ _ _ _ _ _ _ _ _ _ _ _ _ _ _ _ _ _ _ _ _ _ _ ⟨HP2.out, HX2.out⟩
      | true =>
        cases G with
        | true =>
          have ha : addE m ⟨nm, se, xa, xb⟩ = 8 := by rw [HAE.out]; rfl
          have hm := HNO.out (by rw [ha]; decide)
          rw [ha, hm] at HN
          clear ha hm
          go_wp2_with (first | (go_at_call 9; with_reducible refine (H1.out _).mono ?_; clear H1; rintro e W1 ⟨rfl, hw⟩; replace hw := hw.symm; subst hw) | (go_at_call 10; refine (H3.out _).mono ?_; clear H3; rintro e W2 ⟨rfl, hb2⟩; have HP2 := Lib.hid (HP.out.beyond hb2); have HX2 : Hid (Arr W2 q13 30 [.string nm, .string se, .int .i64 xa, .int .i64 xb]) := Lib.hid ((hb2.block _ (lt_of_block HXA.out)).trans HXA.out); have y0 := HX2.out.cell (i := 0) rfl; have y1 := HX2.out.cell (i := 1) rfl; have y2 := HX2.out.cell (i := 2) rfl; have y3 := HX2.out.cell (i := 3) rfl; obtain ⟨d02, f02⟩ := HP2.out.cell; clear hb2))
          exact HN.out _ _ _ _ _ _ _ _ _ _ _ _ _ _ _ _ _ _ _ _ _ _ _ _ _ _ _ _ _ _ _ _ _ _ ⟨HP2.out, HX2.out⟩
        | false =>
          by_cases h16 : 16 ≤ m.length
          · have t16 : decide ((16 : Int) ≤ (m.length : Int)) = true := by simp only [decide_eq_true_eq]; omega
            have ha : addE m ⟨nm, se, xa, xb⟩ = 6 := by rw [HAE.out]; simp [h16]
            have hm := HNO.out (by rw [ha]; decide)
            rw [ha, hm] at HN
            clear ha hm
            go_wp2_with (first | (go_at_call 9; with_reducible refine (H1.out _).mono ?_; clear H1; rintro e W1 ⟨rfl, hw⟩; replace hw := hw.symm; subst hw) | (go_at_call 10; refine (H3.out _).mono ?_; clear H3; rintro e W2 ⟨rfl, hb2⟩; have HP2 := Lib.hid (HP.out.beyond hb2); have HX2 : Hid (Arr W2 q13 30 [.string nm, .string se, .int .i64 xa, .int .i64 xb]) := Lib.hid ((hb2.block _ (lt_of_block HXA.out)).trans HXA.out); have y0 := HX2.out.cell (i := 0) rfl; have y1 := HX2.out.cell (i := 1) rfl; have y2 := HX2.out.cell (i := 2) rfl; have y3 := HX2.out.cell (i := 3) rfl; obtain ⟨d02, f02⟩ := HP2.out.cell; clear hb2))
            exact HN.out _ _ _ _ _ _ _ _ _ _ _ _ _ _ _ _ _ _ _ _ _ _ _ _ _ _ _ _ _ _ _ _ _ _ ⟨HP2.out, HX2.out⟩
          · have t16 : decide ((16 : Int) ≤ (m.length : Int)) = false := by simp only [decide_eq_false_iff_not]; omega
            have ha : addE m ⟨nm, se, xa, xb⟩ = 0 := by rw [HAE.out]; simp; omega
            have hm := HYS.out ha
            rw [ha, hm] at HN
            clear ha hm
            go_wp2_with (first | (go_at_call 9; with_reducible refine (H1.out _).mono ?_; clear H1; rintro e W1 ⟨rfl, hw⟩; replace hw := hw.symm; subst hw) | (go_at_call 10; refine (H3.out _).mono ?_; clear H3; rintro e W2 ⟨rfl, hb2⟩; have HP2 := Lib.hid (HP.out.beyond hb2); have HX2 : Hid (Arr W2 q13 30 [.string nm, .string se, .int .i64 xa, .int .i64 xb]) := Lib.hid ((hb2.block _ (lt_of_block HXA.out)).trans HXA.out); have y0 := HX2.out.cell (i := 0) rfl; have y1 := HX2.out.cell (i := 1) rfl; have y2 := HX2.out.cell (i := 2) rfl; have y3 := HX2.out.cell (i := 3) rfl; obtain ⟨d02, f02⟩ := HP2.out.cell; clear hb2) | (refine wpList_append_hos rfl _ _ rfl w.heap.size _ m rfl (HP2.out.row.alloc _) _ [⟨nm, se, xa, xb⟩] rfl (srcH_one W2 ⟨nm, se, xa, xb⟩) (by simp; omega) (by have := HP2.out.nst.bel.size; simp; omega) ?_; intro v3 W3 hr3 hg3 _; obtain ⟨va3, vc3, ev3⟩ := own_slice hr3.out; rw [show (m ++ [(⟨nm, se, xa, xb⟩ : Hld)]).length = m.length + 1 by simp] at ev3; subst ev3; have HR3 := Lib.hid hr3.out; have HG3 : Hid (Only (fun k => (Value.slice va m.length vc).ownBlock = some k) W2 W3) := Lib.hid ((Only.alloc (fun k => (Value.slice va m.length vc).ownBlock = some k) W2 (.cells #[.string nm, .string se, .int .i64 xa, .int .i64 xb] 30)).trans (Only.grown hg3.out) (fun _ _ h => h)); have HP4 := Lib.hid (HP2.out.stored HR3.out HG3.out (fun _ _ h => h)); obtain ⟨d03, f03⟩ := cells1 ((HG3.out.block q10 (lt_of_block HP2.out.box) (row_ne HP2.out.box HP2.out.row (by decide))).trans HP2.out.box); clear hr3 hg3))
            exact HN.out _ _ _ _ _ _ _ _ _ _ _ _ _ _ _ _ _ _ _ _ _ _ _ _ _ _ _ _ _ _ _ _ _ _ ⟨HP4.out, (HX2.out.only HG3.out HNE.out).only (Only.setCell (S := fun k => k = q10) _ rfl _) HNQ.out⟩
    | false =>
      cases RS with
      | false =>
        have ha : addE m ⟨nm, se, xa, xb⟩ = 15 := by rw [HAE.out]; rfl
        have hm := HNO.out (by rw [ha]; decide)
        rw [ha, hm] at HN
        clear ha hm
        go_wp2_with (first | (go_at_call 9; with_reducible refine (H1.out _).mono ?_; clear H1; rintro e W1 ⟨rfl, hw⟩; replace hw := hw.symm; subst hw) | (go_at_call 9; with_reducible refine (H2.out _).mono ?_; clear H2; rintro e W1 ⟨rfl, hw⟩; replace hw := hw.symm; subst hw))
        exact HN.out _ _ _ _ _ _ _ _ _ _ _ _ _ _ _ _ _ _ _ _ _ _ _ _ _ _ _ _ _ _ _ _ _ _ ⟨HP.out, HXA.out⟩
      | true =>
        cases R with
        | false =>
          have ha : addE m ⟨nm, se, xa, xb⟩ = 3 := by rw [HAE.out]; rfl
          have hm := HNO.out (by rw [ha]; decide)
          rw [ha, hm] at HN
          clear ha hm
          go_wp2_with (first | (go_at_call 9; with_reducible refine (H1.out _).mono ?_; clear H1; rintro e W1 ⟨rfl, hw⟩; replace hw := hw.symm; subst hw) | (go_at_call 9; with_reducible refine (H2.out _).mono ?_; clear H2; rintro e W1 ⟨rfl, hw⟩; replace hw := hw.symm; subst hw) | (go_at_call 10; refine (H3.out _).mono ?_; clear H3; rintro e W2 ⟨rfl, hb2⟩; have HP2 := Lib.hid (HP.out.beyond hb2); have HX2 : Hid (Arr W2 q13 30 [.string nm, .string se, .int .i64 xa, .int .i64 xb]) := Lib.hid ((hb2.block _ (lt_of_block HXA.out)).trans HXA.out); have y0 := HX2.out.cell (i := 0) rfl; have y1 := HX2.out.cell (i := 1) rfl; have y2 := HX2.out.cell (i := 2) rfl; have y3 := HX2.out.cell (i := 3) rfl; obtain ⟨d02, f02⟩ := HP2.out.cell; clear hb2))
          exact HN.out _ _ _ _ _ _ _ _ _ _ _ _ _ _ _ _ _ _ _ _ _ _ _ _ _ _ _ _ _ _ _ _ _ _ ⟨HP2.out, HX2.out⟩
        | true =>
          cases G with
          | true =>
            have ha : addE m ⟨nm, se, xa, xb⟩ = 8 := by rw [HAE.out]; rfl
            have hm := HNO.out (by rw [ha]; decide)
            rw [ha, hm] at HN
            clear ha hm
            go_wp2_with (first | (go_at_call 9; with_reducible refine (H1.out _).mono ?_; clear H1; rintro e W1 ⟨rfl, hw⟩; replace hw := hw.symm; subst hw) | (go_at_call 9; with_reducible refine (H2.out _).mono ?_; clear H2; rintro e W1 ⟨rfl, hw⟩; replace hw := hw.symm; subst hw) | (go_at_call 10; refine (H3.out _).mono ?_; clear H3; rintro e W2 ⟨rfl, hb2⟩; have HP2 := Lib.hid (HP.out.beyond hb2); have HX2 : Hid (Arr W2 q13 30 [.string nm, .string se, .int .i64 xa, .int .i64 xb]) := Lib.hid ((hb2.block _ (lt_of_block HXA.out)).trans HXA.out); have y0 := HX2.out.cell (i := 0) rfl; have y1 := HX2.out.cell (i := 1) rfl; have y2 := HX2.out.cell (i := 2) rfl; have y3 := HX2.out.cell (i := 3) rfl; obtain ⟨d02, f02⟩ := HP2.out.cell; clear hb2))
            exact HN.out _ _ _ _ _ _ _ _ _ _ _ _ _ _ _ _ _ _ _ _ _ _ _ _ _ _ _ _ _ _ _ _ _ _ ⟨HP2.out, HX2.out⟩
          | false =>
            by_cases h16 : 16 ≤ m.length
            · have t16 : decide ((16 : Int) ≤ (m.length : Int)) = true := by simp only [decide_eq_true_eq]; omega
              have ha : addE m ⟨nm, se, xa, xb⟩ = 6 := by rw [HAE.out]; simp [h16]
              have hm := HNO.out (by rw [ha]; decide)
              rw [ha, hm] at HN
              clear ha hm
              go_wp2_with (first | (go_at_call 9; with_reducible refine (H1.out _).mono ?_; clear H1; rintro e W1 ⟨rfl, hw⟩; replace hw := hw.symm; subst hw) | (go_at_call 9; with_reducible refine (H2.out _).mono ?_; clear H2; rintro e W1 ⟨rfl, hw⟩; replace hw := hw.symm; subst hw) | (go_at_call 10; refine (H3.out _).mono ?_; clear H3; rintro e W2 ⟨rfl, hb2⟩; have HP2 := Lib.hid (HP.out.beyond hb2); have HX2 : Hid (Arr W2 q13 30 [.string nm, .string se, .int .i64 xa, .int .i64 xb]) := Lib.hid ((hb2.block _ (lt_of_block HXA.out)).trans HXA.out); have y0 := HX2.out.cell (i := 0) rfl; have y1 := HX2.out.cell (i := 1) rfl; have y2 := HX2.out.cell (i := 2) rfl; have y3 := HX2.out.cell (i := 3) rfl; obtain ⟨d02, f02⟩ := HP2.out.cell; clear hb2))
              exact HN.out _ _ _ _ _ _ _ _ _ _ _ _ _ _ _ _ _ _ _ _ _ _ _ _ _ _ _ _ _ _ _ _ _ _ ⟨HP2.out, HX2.out⟩
            · have t16 : decide ((16 : Int) ≤ (m.length : Int)) = false := by simp only [decide_eq_false_iff_not]; omega
              have ha : addE m ⟨nm, se, xa, xb⟩ = 0 := by rw [HAE.out]; simp; omega
              have hm := HYS.out ha
              rw [ha, hm] at HN
              clear ha hm
              go_wp2_with (first | (go_at_call 9; with_reducible refine (H1.out _).mono ?_; clear H1; rintro e W1 ⟨rfl, hw⟩; replace hw := hw.symm; subst hw) | (go_at_call 9; with_reducible refine (H2.out _).mono ?_; clear H2; rintro e W1 ⟨rfl, hw⟩; replace hw := hw.symm; subst hw) | (go_at_call 10; refine (H3.out _).mono ?_; clear H3; rintro e W2 ⟨rfl, hb2⟩; have HP2 := Lib.hid (HP.out.beyond hb2); have HX2 : Hid (Arr W2 q13 30 [.string nm, .string se, .int .i64 xa, .int .i64 xb]) := Lib.hid ((hb2.block _ (lt_of_block HXA.out)).trans HXA.out); have y0 := HX2.out.cell (i := 0) rfl; have y1 := HX2.out.cell (i := 1) rfl; have y2 := HX2.out.cell (i := 2) rfl; have y3 := HX2.out.cell (i := 3) rfl; obtain ⟨d02, f02⟩ := HP2.out.cell; clear hb2) | (refine wpList_append_hos rfl _ _ rfl w.heap.size _ m rfl (HP2.out.row.alloc _) _ [⟨nm, se, xa, xb⟩] rfl (srcH_one W2 ⟨nm, se, xa, xb⟩) (by simp; omega) (by have := HP2.out.nst.bel.size; simp; omega) ?_; intro v3 W3 hr3 hg3 _; obtain ⟨va3, vc3, ev3⟩ := own_slice hr3.out; rw [show (m ++ [(⟨nm, se, xa, xb⟩ : Hld)]).length = m.length + 1 by simp] at ev3; subst ev3; have HR3 := Lib.hid hr3.out; have HG3 : Hid (Only (fun k => (Value.slice va m.length vc).ownBlock = some k) W2 W3) := Lib.hid ((Only.alloc (fun k => (Value.slice va m.length vc).ownBlock = some k) W2 (.cells #[.string nm, .string se, .int .i64 xa, .int .i64 xb] 30)).trans (Only.grown hg3.out) (fun _ _ h => h)); have HP4 := Lib.hid (HP2.out.stored HR3.out HG3.out (fun _ _ h => h)); obtain ⟨d03, f03⟩ := cells1 ((HG3.out.block q10 (lt_of_block HP2.out.box) (row_ne HP2.out.box HP2.out.row (by decide))).trans HP2.out.box); clear hr3 hg3))
              exact HN.out _ _ _ _ _ _ _ _ _ _ _ _ _ _ _ _ _ _ _ _ _ _ _ _ _ _ _ _ _ _ _ _ _ _ ⟨HP4.out, (HX2.out.only HG3.out HNE.out).only (Only.setCell (S := fun k => k = q10) _ rfl _) HNQ.out⟩
set_option maxHeartbeats 16000000 in
set_option maxRecDepth 1000000 in
theorem hpAdd {w W : World} {q7 q8 q10 p : Nat} {ra rb t : Int} {s : ByteArray} {b : Option Nat} {m : List Hld} {v : Value} {ds : List Deferred} {Q : Exit → Act → World → Prop} {q13 : Nat} {x : Hld} {kind : Int}
    (HP : Hid (PSt w q7 q8 q10 p ra rb b m m v ds W)) (HX : Hid (Arr W q13 30 x.cells ∧ v.ownBlock ≠ some q13)) (HZ : Hid (x.name.size ≤ 60 ∧ x.ser.size ≤ 60)) (hk : kind = 0 ∨ kind = 1 ∨ kind = 2) (c0 c3 c4 c5 c6 c11 c12 c15 c16 c17 c18 c19 c20 c21 c22 c23 c24 c25 c26 c27 c28 c29 c30 c31 c32 c33 c34 c35 c36 c37 c38 c39 c40 c41 c42 c43 c44 c45 c46 c47 c48 c49 c50 c51 c52 c53 c54 c55 c56 c57 c58 c59 c60 c61 c62 c63 c64 c65 c66 c68 c69 c70 c71 c72 c73 c74 c75 c76 c77 c78 c79 c80 c81 c82 c83 c84 c85 c86 c87 c88 c89 c90 c91 c92 c93 c94 c95 c96 c97 c98 c99 c100 c101 c102 c103 c104 c105 c106 c107 c108 c109 c110 c111 c112 c113 c114 c115 c116 c117 c118 c119 c120 c121 c122 c123 c124 c125 c126 c127 c128 c129 c130 c131 c132 c133 c134 c135 c136 c137 c138 c139 c140 c141 c142 c143 c144 c145 c146 c147 c148 c149 c150 c151 c152 c153 c154 c155 c156 c157 c158 c159 c160 c161 c162 c163 c164 c165 c166 c167 c168 c169 c170 c171 c172 c173 c174 c175 c176 c177 c178 c179 c180 c181 c182 c183 c184 c185 c186 c187 c188 c189 c190 c191 c192 c193 c194 c195 c196 c197 c198 c199 c200 c201 c202 c203 c204 c205 c206 c207 c208 c209 c210 c211 c212 c213 c214 c215 c216 c217 c218 c219 c220 c221 c222 c223 c224 c225 c226 c227 c228 c229 c230 c231 c232 c233 c234 c235 c236 c237 c238 c239 c240 c241 c242 c243 c244 c245 c246 c247 c248 c249 c250 c251 c252 c253 c254 c255 : Value)
    (HN : Hid (∀ (b' : Option Nat) (m' : List Hld) (v' : Value) (W' : World) (u15 u16 u17 u19 u68 u69 u70 u71 u72 u73 u74 u75 u76 u77 u78 u79 u80 u81 u82 u83 u84 u85 u86 u87 u88 u89 u90 u91 u92 u93 u94 u95 u96 u97 u98 u99 u100 u101 u102 u103 u104 u105 u106 u107 u108 u109 u110 u111 u112 u113 u114 u115 u116 u117 u118 u119 u120 u121 u122 u123 u124 u125 u126 u127 u128 u129 u130 u131 u132 u133 u134 u135 u136 u137 u138 u139 u140 u141 u142 u143 u144 : Value), PSt w q7 q8 q10 p ra rb b' m' m' v' ds W' → Q .normal ⟨List.toArray (c0 :: .string s :: .int .i64 t :: c3 :: c4 :: c5 :: c6 :: .pointer (some ⟨q7, 0, none⟩) :: .pointer (some ⟨q8, 0, none⟩) :: .pointer (some ⟨p, 0, none⟩) :: .pointer (some ⟨q10, 0, none⟩) :: c11 :: c12 :: .pointer (some ⟨q13, 0, none⟩) :: .int .i64 (findH m x.name) :: u15 :: u16 :: u17 :: c18 :: u19 :: c20 :: c21 :: c22 :: c23 :: c24 :: c25 :: c26 :: c27 :: c28 :: c29 :: c30 :: c31 :: c32 :: c33 :: c34 :: c35 :: c36 :: c37 :: c38 :: c39 :: c40 :: c41 :: c42 :: c43 :: c44 :: c45 :: c46 :: c47 :: c48 :: c49 :: c50 :: c51 :: c52 :: c53 :: c54 :: c55 :: c56 :: c57 :: c58 :: c59 :: c60 :: c61 :: c62 :: c63 :: c64 :: c65 :: c66 :: .int .i64 kind :: u68 :: u69 :: u70 :: u71 :: u72 :: u73 :: u74 :: u75 :: u76 :: u77 :: u78 :: u79 :: u80 :: u81 :: u82 :: u83 :: u84 :: u85 :: u86 :: u87 :: u88 :: u89 :: u90 :: u91 :: u92 :: u93 :: u94 :: u95 :: u96 :: u97 :: u98 :: u99 :: u100 :: u101 :: u102 :: u103 :: u104 :: u105 :: u106 :: u107 :: u108 :: u109 :: u110 :: u111 :: u112 :: u113 :: u114 :: u115 :: u116 :: u117 :: u118 :: u119 :: u120 :: u121 :: u122 :: u123 :: u124 :: u125 :: u126 :: u127 :: u128 :: u129 :: u130 :: u131 :: u132 :: u133 :: u134 :: u135 :: u136 :: u137 :: u138 :: u139 :: u140 :: u141 :: u142 :: u143 :: u144 :: c145 :: c146 :: c147 :: c148 :: c149 :: c150 :: c151 :: c152 :: c153 :: c154 :: c155 :: c156 :: c157 :: c158 :: c159 :: c160 :: c161 :: c162 :: c163 :: c164 :: c165 :: c166 :: c167 :: c168 :: c169 :: c170 :: c171 :: c172 :: c173 :: c174 :: c175 :: c176 :: c177 :: c178 :: c179 :: c180 :: c181 :: c182 :: c183 :: c184 :: c185 :: c186 :: c187 :: c188 :: c189 :: c190 :: c191 :: c192 :: c193 :: c194 :: c195 :: c196 :: c197 :: c198 :: c199 :: c200 :: c201 :: c202 :: c203 :: c204 :: c205 :: c206 :: c207 :: c208 :: c209 :: c210 :: c211 :: c212 :: c213 :: c214 :: c215 :: c216 :: c217 :: c218 :: c219 :: c220 :: c221 :: c222 :: c223 :: c224 :: c225 :: c226 :: c227 :: c228 :: c229 :: c230 :: c231 :: c232 :: c233 :: c234 :: c235 :: c236 :: c237 :: c238 :: c239 :: c240 :: c241 :: c242 :: c243 :: c244 :: c245 :: c246 :: c247 :: c248 :: c249 :: c250 :: c251 :: c252 :: c253 :: c254 :: c255 :: []), ds⟩ W')) : Code.wp Try.prog (hpBlk 2) Q ⟨List.toArray (c0 :: .string s :: .int .i64 t :: c3 :: c4 :: c5 :: c6 :: .pointer (some ⟨q7, 0, none⟩) :: .pointer (some ⟨q8, 0, none⟩) :: .pointer (some ⟨p, 0, none⟩) :: .pointer (some ⟨q10, 0, none⟩) :: c11 :: c12 :: .pointer (some ⟨q13, 0, none⟩) :: .int .i64 (findH m x.name) :: c15 :: c16 :: c17 :: c18 :: c19 :: c20 :: c21 :: c22 :: c23 :: c24 :: c25 :: c26 :: c27 :: c28 :: c29 :: c30 :: c31 :: c32 :: c33 :: c34 :: c35 :: c36 :: c37 :: c38 :: c39 :: c40 :: c41 :: c42 :: c43 :: c44 :: c45 :: c46 :: c47 :: c48 :: c49 :: c50 :: c51 :: c52 :: c53 :: c54 :: c55 :: c56 :: c57 :: c58 :: c59 :: c60 :: c61 :: c62 :: c63 :: c64 :: c65 :: c66 :: .int .i64 kind :: c68 :: c69 :: c70 :: c71 :: c72 :: c73 :: c74 :: c75 :: c76 :: c77 :: c78 :: c79 :: c80 :: c81 :: c82 :: c83 :: c84 :: c85 :: c86 :: c87 :: c88 :: c89 :: c90 :: c91 :: c92 :: c93 :: c94 :: c95 :: c96 :: c97 :: c98 :: c99 :: c100 :: c101 :: c102 :: c103 :: c104 :: c105 :: c106 :: c107 :: c108 :: c109 :: c110 :: c111 :: c112 :: c113 :: c114 :: c115 :: c116 :: c117 :: c118 :: c119 :: c120 :: c121 :: c122 :: c123 :: c124 :: c125 :: c126 :: c127 :: c128 :: c129 :: c130 :: c131 :: c132 :: c133 :: c134 :: c135 :: c136 :: c137 :: c138 :: c139 :: c140 :: c141 :: c142 :: c143 :: c144 :: c145 :: c146 :: c147 :: c148 :: c149 :: c150 :: c151 :: c152 :: c153 :: c154 :: c155 :: c156 :: c157 :: c158 :: c159 :: c160 :: c161 :: c162 :: c163 :: c164 :: c165 :: c166 :: c167 :: c168 :: c169 :: c170 :: c171 :: c172 :: c173 :: c174 :: c175 :: c176 :: c177 :: c178 :: c179 :: c180 :: c181 :: c182 :: c183 :: c184 :: c185 :: c186 :: c187 :: c188 :: c189 :: c190 :: c191 :: c192 :: c193 :: c194 :: c195 :: c196 :: c197 :: c198 :: c199 :: c200 :: c201 :: c202 :: c203 :: c204 :: c205 :: c206 :: c207 :: c208 :: c209 :: c210 :: c211 :: c212 :: c213 :: c214 :: c215 :: c216 :: c217 :: c218 :: c219 :: c220 :: c221 :: c222 :: c223 :: c224 :: c225 :: c226 :: c227 :: c228 :: c229 :: c230 :: c231 :: c232 :: c233 :: c234 :: c235 :: c236 :: c237 :: c238 :: c239 :: c240 :: c241 :: c242 :: c243 :: c244 :: c245 :: c246 :: c247 :: c248 :: c249 :: c250 :: c251 :: c252 :: c253 :: c254 :: c255 :: []), ds⟩ W := by
  conv => arg 2; whnf
  rcases hk with rfl | rfl | rfl
  · go_upto_block 5 with fail
    refine hpB5 HP HX HZ _ _ _ _ _ _ _ _ _ _ _ _ _ _ _ _ _ _ _ _ _ _ _ _ _ _ _ _ _ _ _ _ _ _ _ _ _ _ _ _ _ _ _ _ _ _ _ _ _ _ _ _ _ _ _ _ _ _ _ _ _ _ _ _ _ _ _ _ _ _ _ _ _ _ _ _ _ _ _ _ _ _ _ _ _ _ _ _ _ _ _ _ _ _ _ _ _ _ _ _ _ _ _ _ _ _ _ _ _ _ _ _ _ _ _ _ _ _ _ _ _ _ _ _ _ _ _ _ _ _ _ _ _ _ _ _ _ _ _ _ _ _ _ _ _ _ _ _ _ _ _ _ _ _ _ _ _ _ _ _ _ _ _ _ _ _ _ _ _ _ _ _ _ _ _ _ _ _ _ _ _ _ _ _ _ _ _ _ _ _ _ _ _ _ _ _ _ _ _ _ _ _ _ _ _ _ _ _ _ _ _ _ _ _ _ _ _ _ _ _ _ _ _ _ _ _ _ _ _ _ _ _ _ _ _ _ _ _ _ _ _ _ _ _ _ _ _ ?_
    refine Lib.hid ?_
    intro v5 W5 u88 u89 u90 u91 u92 u93 u94 u95 u96 u97 u98 u99 u100 u101 u102 u103 u104 u105 u106 u107 u108 u109 u110 u111 u112 u113 u114 u115 u116 u117 u118 u119 hq
    have HP5 := Lib.hid hq.1
    have HX5 := Lib.hid hq.2
    have x0 := HX5.out.cell (i := 0) rfl
    have x1 := HX5.out.cell (i := 1) rfl
    have x2 := HX5.out.cell (i := 2) rfl
    have x3 := HX5.out.cell (i := 3) rfl
    have HADD := Lib.hid (hoadd_any HP5.out.tst.at_ x (by have := HZ.out.1; unfold maxLen; omega) (by have := HZ.out.2; unfold maxLen; omega))
    have HTA := Lib.hid (HP5.out.tst.tab.add x)
    obtain ⟨A, hA⟩ : ∃ A, A = addE m x := ⟨_, rfl⟩
    have tA : (A != A) = false := by simp
    rw [← hA] at HADD ⊢
    clear hq hA
    obtain ⟨nm, se, xa, xb⟩ := x
    unfold Hld.val at HADD
    dsimp only at *
    go_wp2_with (go_at_call 11; refine (HADD.out).mono ?_; clear HADD; rintro e W6 ⟨rfl, b6, h1, h2, h3⟩; have HP6 := Lib.hid (HP5.out.turn h1 HTA.out h2 h3); clear h1 h2 h3)
    exact HN.out _ _ _ _ _ _ _ _ _ _ _ _ _ _ _ _ _ _ _ _ _ _ _ _ _ _ _ _ _ _ _ _ _ _ _ _ _ _ _ _ _ _ _ _ _ _ _ _ _ _ _ _ _ _ _ _ _ _ _ _ _ _ _ _ _ _ _ _ _ _ _ _ _ _ _ _ _ _ _ _ _ _ _ _ _ HP6.out
  · go_upto_block 5 with fail
    refine hpB5 HP HX HZ _ _ _ _ _ _ _ _ _ _ _ _ _ _ _ _ _ _ _ _ _ _ _ _ _ _ _ _ _ _ _ _ _ _ _ _ _ _ _ _ _ _ _ _ _ _ _ _ _ _ _ _ _ _ _ _ _ _ _ _ _ _ _ _ _ _ _ _ _ _ _ _ _ _ _ _ _ _ _ _ _ _ _ _ _ _ _ _ _ _ _ _ _ _ _ _ _ _ _ _ _ _ _ _ _ _ _ _ _ _ _ _ _ _ _ _ _ _ _ _ _ _ _ _ _ _ _ _ _ _ _ _ _ _ _ _ _ _ _ _ _ _ _ _ _ _ _ _ _ _ _ _ _ _ _ _ _ _ _ _ _ _ _ _ _ _ _ _ _ _ _ _ _ _ _ _ _ _ _ _ _ _ _ _ _ _ _ _ _ _ _ _ _ _ _ _ _ _ _ _ _ _ _ _ _ _ _ _ _ _ _ _ _ _ _ _ _ _ _ _ _ _ _ _ _ _ _ _ _ _ _ _ _ _ _ _ _ _ _ _ _ _ _ _ _ _ _ ?_
    refine Lib.hid ?_
    intro v5 W5 u88 u89 u90 u91 u92 u93 u94 u95 u96 u97 u98 u99 u100 u101 u102 u103 u104 u105 u106 u107 u108 u109 u110 u111 u112 u113 u114 u115 u116 u117 u118 u119 hq
    have HP5 := Lib.hid hq.1
    have HX5 := Lib.hid hq.2
    have x0 := HX5.out.cell (i := 0) rfl
    have x1 := HX5.out.cell (i := 1) rfl
    have x2 := HX5.out.cell (i := 2) rfl
    have x3 := HX5.out.cell (i := 3) rfl
    have HADD := Lib.hid (hoadd_any HP5.out.tst.at_ x (by have := HZ.out.1; unfold maxLen; omega) (by have := HZ.out.2; unfold maxLen; omega))
    have HTA := Lib.hid (HP5.out.tst.tab.add x)
    obtain ⟨A, hA⟩ : ∃ A, A = addE m x := ⟨_, rfl⟩
    have tA : (A != A) = false := by simp
    rw [← hA] at HADD ⊢
    clear hq hA
    obtain ⟨nm, se, xa, xb⟩ := x
    unfold Hld.val at HADD
    dsimp only at *
    go_wp2_with (go_at_call 11; refine (HADD.out).mono ?_; clear HADD; rintro e W6 ⟨rfl, b6, h1, h2, h3⟩; have HP6 := Lib.hid (HP5.out.turn h1 HTA.out h2 h3); clear h1 h2 h3)
    exact HN.out _ _ _ _ _ _ _ _ _ _ _ _ _ _ _ _ _ _ _ _ _ _ _ _ _ _ _ _ _ _ _ _ _ _ _ _ _ _ _ _ _ _ _ _ _ _ _ _ _ _ _ _ _ _ _ _ _ _ _ _ _ _ _ _ _ _ _ _ _ _ _ _ _ _ _ _ _ _ _ _ _ _ _ _ _ HP6.out
  · go_upto_block 5 with fail
    refine hpB5 HP HX HZ _ _ _ _ _ _ _ _ _ _ _ _ _ _ _ _ _ _ _ _ _ _ _ _ _ _ _ _ _ _ _ _ _ _ _ _ _ _ _ _ _ _ _ _ _ _ _ _ _ _ _ _ _ _ _ _ _ _ _ _ _ _ _ _ _ _ _ _ _ _ _ _ _ _ _ _ _ _ _ _ _ _ _ _ _ _ _ _ _ _ _ _ _ _ _ _ _ _ _ _ _ _ _ _ _ _ _ _ _ _ _ _ _ _ _ _ _ _ _ _ _ _ _ _ _ _ _ _ _ _ _ _ _ _ _ _ _ _ _ _ _ _ _ _ _ _ _ _ _ _ _ _ _ _ _ _ _ _ _ _ _ _ _ _ _ _ _ _ _ _ _ _ _ _ _ _ _ _ _ _ _ _ _ _ _ _ _ _ _ _ _ _ _ _ _ _ _ _ _ _ _ _ _ _ _ _ _ _ _ _ _ _ _ _ _ _ _ _ _ _ _ _ _ _ _ _ _ _ _ _ _ _ _ _ _ _ _ _ _ _ _ _ _ _ _ _ _ ?_
    refine Lib.hid ?_
    intro v5 W5 u88 u89 u90 u91 u92 u93 u94 u95 u96 u97 u98 u99 u100 u101 u102 u103 u104 u105 u106 u107 u108 u109 u110 u111 u112 u113 u114 u115 u116 u117 u118 u119 hq
    have HP5 := Lib.hid hq.1
    have HX5 := Lib.hid hq.2
    have x0 := HX5.out.cell (i := 0) rfl
    have x1 := HX5.out.cell (i := 1) rfl
    have x2 := HX5.out.cell (i := 2) rfl
    have x3 := HX5.out.cell (i := 3) rfl
    have HADD := Lib.hid (hoadd_any HP5.out.tst.at_ x (by have := HZ.out.1; unfold maxLen; omega) (by have := HZ.out.2; unfold maxLen; omega))
    have HTA := Lib.hid (HP5.out.tst.tab.add x)
    obtain ⟨A, hA⟩ : ∃ A, A = addE m x := ⟨_, rfl⟩
    have tA : (A != A) = false := by simp
    rw [← hA] at HADD ⊢
    clear hq hA
    obtain ⟨nm, se, xa, xb⟩ := x
    unfold Hld.val at HADD
    dsimp only at *
    go_wp2_with (go_at_call 11; refine (HADD.out).mono ?_; clear HADD; rintro e W6 ⟨rfl, b6, h1, h2, h3⟩; have HP6 := Lib.hid (HP5.out.turn h1 HTA.out h2 h3); clear h1 h2 h3)
    exact HN.out _ _ _ _ _ _ _ _ _ _ _ _ _ _ _ _ _ _ _ _ _ _ _ _ _ _ _ _ _ _ _ _ _ _ _ _ _ _ _ _ _ _ _ _ _ _ _ _ _ _ _ _ _ _ _ _ _ _ _ _ _ _ _ _ _ _ _ _ _ _ _ _ _ _ _ _ _ _ _ _ _ _ _ _ _ HP6.out
end Go.Proofs.Ytphgkkdpdiiioaa
