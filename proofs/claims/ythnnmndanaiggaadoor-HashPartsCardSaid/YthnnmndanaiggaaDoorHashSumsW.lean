/- HashSums, walked. -/
import Derived.Test.YthnnmndanaiggaaDoorHaLives
import Derived.Lib.LaidTab
namespace Go.Proofs.YthnnmndanaiggaaDoor
open Go.RowKit

theorem tabFact_catacomb_hash_initial {w : World} (h : Lib.TabIs Tryd.prog w "catacomb/hash.initial" .u32 [1779033703, 3144134277, 1013904242, 2773480762, 1359893119, 2600822924, 528734635, 1541459225]) : WordsLaid w := fun j x hx => by
  have h2 := World.var?_cell (show Tryd.prog.globalNamed "catacomb/hash.initial" = some 0 by kernel_rfl) h j
  rw [h2]
  have hj : j < 8 := (List.getElem?_eq_some_iff.1 hx).1
  have : ∀ j, j < 8 → ∀ x, startH.words[j]? = some x → ([1779033703, 3144134277, 1013904242, 2773480762, 1359893119, 2600822924, 528734635, 1541459225].map (fun z : Int => Value.int .u32 z)).toArray[j]? = some (.int .u32 (x : Int)) := by
    intro j hj
    match j, hj with
    | 0, _ => intro x h; cases h; rfl
    | 1, _ => intro x h; cases h; rfl
    | 2, _ => intro x h; cases h; rfl
    | 3, _ => intro x h; cases h; rfl
    | 4, _ => intro x h; cases h; rfl
    | 5, _ => intro x h; cases h; rfl
    | 6, _ => intro x h; cases h; rfl
    | 7, _ => intro x h; cases h; rfl
  exact this j hj x hx
def rootsI : List Int := keysL.map fun (x : Nat) => (x : Int)
theorem tabFact_catacomb_hash_roots {w : World} (h : Lib.TabIs Tryd.prog w "catacomb/hash.roots" .u32 [1116352408, 1899447441, 3049323471, 3921009573, 961987163, 1508970993, 2453635748, 2870763221, 3624381080, 310598401, 607225278, 1426881987, 1925078388, 2162078206, 2614888103, 3248222580, 3835390401, 4022224774, 264347078, 604807628, 770255983, 1249150122, 1555081692, 1996064986, 2554220882, 2821834349, 2952996808, 3210313671, 3336571891, 3584528711, 113926993, 338241895, 666307205, 773529912, 1294757372, 1396182291, 1695183700, 1986661051, 2177026350, 2456956037, 2730485921, 2820302411, 3259730800, 3345764771, 3516065817, 3600352804, 4094571909, 275423344, 430227734, 506948616, 659060556, 883997877, 958139571, 1322822218, 1537002063, 1747873779, 1955562222, 2024104815, 2227730452, 2361852424, 2428436474, 2756734187, 3204031479, 3329325298]) : RootsLaid w := fun j x hx => by
  have h2 := World.var?_cell (show Tryd.prog.globalNamed "catacomb/hash.roots" = some 1 by kernel_rfl) h j
  rw [h2]
  have e : [1116352408, 1899447441, 3049323471, 3921009573, 961987163, 1508970993, 2453635748, 2870763221, 3624381080, 310598401, 607225278, 1426881987, 1925078388, 2162078206, 2614888103, 3248222580, 3835390401, 4022224774, 264347078, 604807628, 770255983, 1249150122, 1555081692, 1996064986, 2554220882, 2821834349, 2952996808, 3210313671, 3336571891, 3584528711, 113926993, 338241895, 666307205, 773529912, 1294757372, 1396182291, 1695183700, 1986661051, 2177026350, 2456956037, 2730485921, 2820302411, 3259730800, 3345764771, 3516065817, 3600352804, 4094571909, 275423344, 430227734, 506948616, 659060556, 883997877, 958139571, 1322822218, 1537002063, 1747873779, 1955562222, 2024104815, 2227730452, 2361852424, 2428436474, 2756734187, 3204031479, 3329325298] = rootsI := by decide +kernel
  rw [e]
  simp [rootsI, hx]

set_option maxHeartbeats 4000000 in
set_option maxRecDepth 1000000 in
theorem hashSums_walk {w : World} {v : Value} {bs : List Nat} (hv : Lies w v bs) (hf : Fits v) (hb : ∀ x ∈ bs, x < 256) (_hm : bs.length ≤ maxLen) (h0 : WordsLaid w) (h1 : RootsLaid w) :
    Calls Tryd.prog 3 #[v] w fun e w' => e = .returned (.bool true) ∧ Below w.heap.size w w' := by
  obtain ⟨a, c, rfl⟩ := lies_len hv
  have HT : Hid (Tabs w) := Lib.hid ⟨h1, h0⟩
  have HV := Lib.hid hv
  have HF := Lib.hid hf
  have HB := Lib.hid hb
  obtain ⟨n, hn⟩ : ∃ n, n = bs.length := ⟨_, rfl⟩
  rw [← hn]
  have HN := Lib.hid hn
  clear hv hf hb h0 h1
  by_cases hlt : n ≤ 400
  · have t1 : decide (400 < (n : Int)) = false := by simp only [decide_eq_false_iff_not]; omega
    obtain ⟨L, hL⟩ : ∃ L, L = u8s (digest bs) := ⟨_, rfl⟩
    have HS : Hid (∀ W, Below w.heap.size w W → Calls Tryd.prog 7 #[.slice a n c] W fun e w' => e = .returned (.agg L.toArray) ∧ Below W.heap.size W w') := Lib.hid fun W hW => by
      rw [hL, hn]
      exact hsum_any (lies_keep HV.out hW) HF.out HB.out (by omega) (HT.out.keep hW)
    have HR : Hid (∀ W, Below w.heap.size w W → Calls Tryd.prog 8 #[.slice a n c] W fun e w' => e = .returned (.agg L.toArray) ∧ Below W.heap.size W w') := Lib.hid fun W hW => by
      rw [hL, hn]
      exact rsum_any (lies_keep HV.out hW) HB.out (by omega)
    have HEQ : Hid (∀ W, (Op.equalIn 10000 25 (.agg L.toArray) (.agg L.toArray)).run Tryd.prog W = .ok true W) := Lib.hid fun W => by rw [hL]; exact dig_same _ (digest_length bs) W
    clear hn hL
    go_enter Tryd.func3, Tryd.ntmps3
    repeat (first | (go_at_call 6; refine (lives_any w HT.out).mono ?_; rintro e W1 ⟨rfl, hb1⟩; have HB1 := Lib.hid hb1; clear hb1; dsimp only) | (go_at_call 7; refine (HS.out W1 HB1.out).mono ?_; rintro e W2 ⟨rfl, hb2⟩; have HB2 := Lib.hid (HB1.out.trans (hb2.mono HB1.out.size)); clear hb2; dsimp only) | (go_at_call 8; refine (HR.out W2 HB2.out).mono ?_; rintro e W3 ⟨rfl, hb3⟩; have HB3 := Lib.hid (HB2.out.trans (hb3.mono HB2.out.size)); have hq := HEQ.out W3; clear hb3; dsimp only) | go_values | go_skip | go_guarded | go_step | go_upon)
    go_ret
    exact ⟨rfl, HB3.out⟩
  · have t1 : decide (400 < (n : Int)) = true := by simp only [decide_eq_true_eq]; omega
    go_enter Tryd.func3, Tryd.ntmps3
    repeat (first | (go_at_call 6; refine calls_name ?_; intro W hW; have HBW : Hid (Below w.heap.size w W) := Lib.hid (by rw [hW.out]; first | exact Below.refl _ _ | exact HB1.out); clear hW; refine (lives_any W (HT.out.keep HBW.out)).mono ?_; rintro e W1 ⟨rfl, hb1⟩; have HB1 := Lib.hid (HBW.out.trans (hb1.mono HBW.out.size)); clear hb1; dsimp only) | go_values | go_skip | go_guarded | go_step | go_upon)
    go_ret
    exact ⟨rfl, HB1.out⟩
end Go.Proofs.YthnnmndanaiggaaDoor
