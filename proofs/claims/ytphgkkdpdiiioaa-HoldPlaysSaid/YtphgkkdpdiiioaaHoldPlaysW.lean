/- HoldPlays, walked. Written by py/hold-plays.py. -/
import Derived.Test.YtphgkkdpdiiioaaHpLoop
import Derived.Test.YtphgkkdpdiiioaaHoLives
namespace Go.Proofs.Ytphgkkdpdiiioaa
open Go.RowKit Go.Shelf

set_option maxHeartbeats 16000000 in
set_option maxRecDepth 1000000 in
theorem holdPlays_walk {w : World} {v0 : Value} {L : List HAct} (hl : HActsAt w v0 L) (hin : ∀ x ∈ L, x.In) (_hm : L.length ≤ maxLen) (s : ByteArray) (_hs : s.size ≤ maxLen) {t : Int} (_ht0 : -9223372036854775808 ≤ t) (_ht1 : t ≤ 9223372036854775807) {ra rb : Int} (_x : -9223372036854775808 ≤ ra ∧ ra ≤ 9223372036854775807) (_y : -9223372036854775808 ≤ rb ∧ rb ≤ 9223372036854775807) :
    Calls Try.prog 3 #[v0, .string s, .int .i64 t, .agg #[.int .i64 ra, .int .i64 rb]] w fun e w' => e = .returned (.bool true) ∧ Below w.heap.size w w' := by
  have HLV : Hid (∀ W, Calls Try.prog 6 #[] W fun e w' => e = .returned (.bool true) ∧ Below W.heap.size W w') := Lib.hid fun W => hollives_any W
  obtain ⟨a0, b0, o0, c0, ev, -, -⟩ := id hl
  subst ev
  obtain ⟨N, hN⟩ : ∃ N, N = L.length := ⟨_, rfl⟩
  have HA := Lib.hid hl
  have HIN := Lib.hid hin
  have HN := Lib.hid hN
  rw [← hN] at HA ⊢
  clear hl hin hN _hm
  refine (callsIn_wide (n := 4)).1 ?_
  refine callsIn_of_wp_marks Try.func3 rfl trivial ?_ rfl
  simp only [Try.ntmps3, List.size_toArray, List.length_cons, List.length_nil, Nat.reduceAdd, Nat.reduceSub, Array.replicate_succ, Array.replicate_zero, List.push_toArray, List.append_toArray, List.nil_append, List.cons_append]
  refine wpIn_wide.2 ?_
  go_wp2_with fail
  refine calls_name ?_
  intro W0 hW0
  obtain ⟨q7, hq7⟩ : ∃ q, q = w.heap.size := ⟨_, rfl⟩
  have e6 : (w.alloc (.cells #[.int .i64 ra, .int .i64 rb] 24)).heap.size = q7 + 1 := by rw [hq7]; simp
  have HR0 : Hid (RgAt W0 q7 ra rb) := Lib.hid (by rw [hW0.out, hq7]; exact (RgAt.new w ra rb).old _)
  have HD0 : Hid (W0.heap[q7 + 1]? = some (.cells #[.bool false] 4 (0, 0))) := Lib.hid (by rw [hW0.out, ← e6]; exact heap_alloc_new _ _)
  have HB0 : Hid (Below w.heap.size w W0) := Lib.hid (by rw [hW0.out]; exact ((Below.refl _ _).alloc (Nat.le_refl _) _).alloc (by simp) _)
  have HS0 : Hid (NSt w q7 (q7 + 1) ra rb false W0) := Lib.hid ⟨HR0.out, HD0.out, HB0.out, by omega, by omega⟩
  rw [← hq7]
  clear hW0 hq7 e6 HR0 HD0 HB0
  refine (HLV.out W0).mono ?_
  rintro e W1 ⟨rfl, hb1⟩
  have HS1 := Lib.hid (HS0.out.beyond hb1)
  clear hb1 HS0
  by_cases h60 : 60 < N
  · have t60 : decide ((60 : Int) < (N : Int)) = true := by simp only [decide_eq_true_eq]; omega
    clear h60
    go_wp2_with (go_at_call 6; refine (HLV.out _).mono ?_; rintro e W2 ⟨rfl, hb2⟩; have HS2 := Lib.hid (HS1.out.beyond hb2); obtain ⟨r0, r1, c0', f0⟩ := HS2.out.cells; clear hb2)
    exact marks_end (Q := q7 + 1) rfl rfl (MarksAt.nil _ _) (HS2.out.set true).res (HS2.out.set true).bel (HS2.out.set true).bel.size
  · have t60 : decide ((60 : Int) < (N : Int)) = false := by simp only [decide_eq_false_iff_not]; omega
    by_cases h61 : 60 < s.size
    · have t61 : decide ((60 : Int) < (s.size : Int)) = true := by simp only [decide_eq_true_eq]; omega
      clear h61
      go_wp2_with (go_at_call 6; refine (HLV.out _).mono ?_; rintro e W2 ⟨rfl, hb2⟩; have HS2 := Lib.hid (HS1.out.beyond hb2); obtain ⟨r0, r1, c0', f0⟩ := HS2.out.cells; clear hb2)
      exact marks_end (Q := q7 + 1) rfl rfl (MarksAt.nil _ _) (HS2.out.set true).res (HS2.out.set true).bel (HS2.out.set true).bel.size
    · have t61 : decide ((60 : Int) < (s.size : Int)) = false := by simp only [decide_eq_false_iff_not]; omega
      have HNW := Lib.hid (honew_any W1)
      clear h61
      go_upto_block 0 with (go_at_call 7; refine (HNW.out).mono ?_; clear HNW; rintro e W2 ⟨p, rfl, ht2, hp2, hb2⟩; have HT2 := Lib.hid ht2; have HPL := Lib.hid hp2; have HB2 := Lib.hid hb2; clear ht2 hp2 hb2)
      refine wp_name fun W3 hW3 => ?_
      obtain ⟨q10, hq10⟩ : ∃ q, q = W2.heap.size := ⟨_, rfl⟩
      have HS2 := Lib.hid (HS1.out.beyond HB2.out)
      have hb3 : Below W2.heap.size W2 W3 := by rw [hW3.out]; exact (Below.refl _ _).alloc (Nat.le_refl _) _
      have HP3 : Hid (PSt w q7 (q7 + 1) q10 p ra rb none [] [] (.slice none 0 0) [] W3) := Lib.hid
        ⟨HS2.out.beyond hb3, by rw [hW3.out, hq10]; exact heap_alloc_new _ _, by rw [hq10]; exact HS2.out.bel.size, HoRow.nil _ _, ⟨HT2.out.below hb3, TabM.nil, fun k hk => (by have := HS1.out.bel.size; have := HPL.out; rcases hk with rfl | hk; omega; cases hk), HS2.out.bel.trans (hb3.mono HS2.out.bel.size)⟩, MarksAt.nil _ _⟩
      rw [← hq10]
      clear hW3 hq10 hb3 HS1 HS2 HT2 HPL HB2
      refine hpLoop (s := s) (t := t) HA (Lib.hid ⟨HN.out, by omega⟩) HIN HP3 (Lib.hid ?_) _ _ _ _ _ _ _ _ _ _ _ _ _ _ _ _ _ _ _ _ _ _ _ _ _ _ _ _ _ _ _ _ _ _ _ _ _ _ _ _ _ _ _ _ _ _ _ _ _ _ _ _ _ _ _ _ _ _ _ _ _ _ _ _ _ _ _ _ _ _ _ _ _ _ _ _ _ _ _ _ _ _ _ _ _ _ _ _ _ _ _ _ _ _ _ _ _ _ _ _ _ _ _ _ _ _ _ _ _ _ _ _ _ _ _ _ _ _ _ _ _ _ _ _ _ _ _ _ _ _ _ _ _ _ _ _ _ _ _ _ _ _ _ _ _ _ _ _ _ _ _ _ _ _ _ _ _ _ _ _ _ _ _ _ _ _ _ _ _ _ _ _ _ _ _ _ _ _ _ _ _ _ _ _ _ _ _ _ _ _ _ _ _ _ _ _ _ _ _ _ _ _ _ _ _ _ _ _ _ _ _ _ _ _ _ _ _ _ _ _ _ _ _ _ _ _ _ _ _ _ _ _ _ _ _ _ _ _ _ _ _ _ _ _ _ _ _ (Lib.hid ?_)
      · intro a' W' h1 h2 h3 h4
        exact marks_end rfl h1 h3 h2 h4 h4.size
      · intro b' m' v' ds' W' u12 u13 u14 u15 u16 u17 u19 u20 u21 u22 u24 u25 u26 u27 u28 u29 u47 u48 u49 u50 u51 u52 u53 u54 u55 u56 u57 u58 u59 u60 u61 u62 u63 u64 u65 u66 u67 u68 u69 u70 u71 u72 u73 u74 u75 u76 u77 u78 u79 u80 u81 u82 u83 u84 u85 u86 u87 u88 u89 u90 u91 u92 u93 u94 u95 u96 u97 u98 u99 u100 u101 u102 u103 u104 u105 u106 u107 u108 u109 u110 u111 u112 u113 u114 u115 u116 u117 u118 u119 u120 u121 u122 u123 u124 u125 u126 u127 u128 u129 u130 u131 u132 u133 u134 u135 u136 u137 u138 u139 u140 u141 u142 u143 u144 u145 u146 u147 u148 u149 u150 u151 u152 u153 u154 u155 u156 u157 u158 u159 u160 u161 u162 u163 u164 u165 u166 u167 u168 u169 u170 u171 u172 u173 u174 u175 u176 u177 u178 u179 u180 u181 u182 u183 u184 u185 u186 u187 u188 u189 u190 u191 u192 u193 u194 u195 u196 u197 u198 u199 u200 u201 u202 u203 u204 u205 u206 u207 u208 u209 u210 u211 u212 u213 u214 u215 u216 u217 u218 u219 u220 u221 u222 u223 u224 u225 u227 u228 u229 u230 u231 u232 u233 u234 u235 u236 u237 u238 u239 u240 u241 u242 u243 u244 u245 u246 u247 u248 u249 u250 u251 u252 u253 u254 u255 hp
        have HP4 := Lib.hid hp
        obtain ⟨-, -, g8, f8⟩ := hp.nst.cells
        clear hp
        go_wp2_with fail
        exact marks_end (Q := q7 + 1) rfl rfl (HP4.out.mks.only (Only.setCell (S := fun j => j = q7 + 1) _ rfl _) (fun J o hJ e => by have := HP4.out.nst.res; rw [← e, hJ] at this; cases this)) (HP4.out.nst.set true).res (HP4.out.nst.set true).bel (HP4.out.nst.set true).bel.size
end Go.Proofs.Ytphgkkdpdiiioaa
