/- strconv.FormatInt at base 10: the library's own contract, laid at this program; the table that it reads. -/
import Derived.Test.YtbcbignlngcoiaaDoorGenC
import Derived.Shelf.Strconv.Itoa4
import Derived.Lib.LaidTab
import Derived.WalkSmall
namespace Go.Proofs.YtbcbignlngcoiaaDoor
open Go.RowKit Go.Shelf

/-- the numbers of FormatInt's family here -/
def renFmt : Shelf.Ren := {
  f := (fun x => match x with
    | 129 => 23
    | 173 => 16
    | 246 => 17
    | 283 => 18
    | 284 => 19
    | 285 => 20
    | 286 => 21
    | 317 => 22
    | 318 => 24
    | 319 => 25
    | 320 => 26
    | 337 => 27
    | 338 => 28
    | n => n)
  t := (fun x => match x with
    | 0 => 0
    | 2 => 2
    | 3 => 3
    | 4 => 4
    | 5 => 5
    | 9 => 9
    | 20 => 20
    | 37 => 39
    | 46 => 54
    | 51 => 26
    | 53 => 44
    | 171 => 43
    | 173 => 47
    | 212 => 51
    | 213 => 52
    | 232 => 57
    | 233 => 58
    | n => n)
  g := (fun x => match x with
    | 17 => 0
    | 18 => 1
    | 19 => 2
    | n => n) }
theorem laysFmt : LaysM.n173 Tryd.prog renFmt := {
  mixed := rfl
  f129 := Tryd.func23.trans (congrArg some (by kernel_rfl))
  f173 := Tryd.func16.trans (congrArg some (by kernel_rfl))
  f246 := Tryd.func17.trans (congrArg some (by kernel_rfl))
  f283 := Tryd.func18.trans (congrArg some (by kernel_rfl))
  f284 := Tryd.func19.trans (congrArg some (by kernel_rfl))
  f285 := Tryd.func20.trans (congrArg some (by kernel_rfl))
  f286 := Tryd.func21.trans (congrArg some (by kernel_rfl))
  f317 := Tryd.func22.trans (congrArg some (by kernel_rfl))
  f318 := Tryd.func24.trans (congrArg some (by kernel_rfl))
  f319 := Tryd.func25.trans (congrArg some (by kernel_rfl))
  f320 := Tryd.func26.trans (congrArg some (by kernel_rfl))
  f337 := Tryd.func27.trans (congrArg some (by kernel_rfl))
  f338 := Tryd.func28.trans (congrArg some (by kernel_rfl))
  t0 := Tryd.underlying0
  a0 := Tryd.isAgg0
  z0 := Tryd.sizeOf0
  v0 := Tryd.zeroValue0
  t2 := Tryd.underlying2
  a2 := Tryd.isAgg2
  z2 := Tryd.sizeOf2
  v2 := Tryd.zeroValue2
  t3 := Tryd.underlying3
  a3 := Tryd.isAgg3
  z3 := Tryd.sizeOf3
  v3 := Tryd.zeroValue3
  t4 := Tryd.underlying4
  a4 := Tryd.isAgg4
  z4 := Tryd.sizeOf4
  v4 := Tryd.zeroValue4
  t5 := Tryd.underlying5
  a5 := Tryd.isAgg5
  z5 := Tryd.sizeOf5
  v5 := Tryd.zeroValue5
  t9 := Tryd.underlying9
  a9 := Tryd.isAgg9
  z9 := Tryd.sizeOf9
  v9 := Tryd.zeroValue9
  t20 := Tryd.underlying20
  a20 := Tryd.isAgg20
  z20 := Tryd.sizeOf20
  v20 := Tryd.zeroValue20
  t37 := Tryd.underlying39
  a37 := Tryd.isAgg39
  z37 := Tryd.sizeOf39
  v37 := Tryd.zeroValue39
  t46 := Tryd.underlying54
  a46 := Tryd.isAgg54
  z46 := Tryd.sizeOf54
  v46 := Tryd.zeroValue54
  t51 := Tryd.underlying26
  a51 := Tryd.isAgg26
  z51 := Tryd.sizeOf26
  v51 := Tryd.zeroValue26
  t53 := Tryd.underlying44
  a53 := Tryd.isAgg44
  z53 := Tryd.sizeOf44
  v53 := Tryd.zeroValue44
  t171 := Tryd.underlying43
  a171 := Tryd.isAgg43
  z171 := Tryd.sizeOf43
  v171 := Tryd.zeroValue43
  t173 := Tryd.underlying47
  a173 := Tryd.isAgg47
  z173 := Tryd.sizeOf47
  v173 := Tryd.zeroValue47
  t212 := Tryd.underlying51
  a212 := Tryd.isAgg51
  z212 := Tryd.sizeOf51
  v212 := Tryd.zeroValue51
  t213 := Tryd.underlying52
  a213 := Tryd.isAgg52
  z213 := Tryd.sizeOf52
  t232 := Tryd.underlying57
  a232 := Tryd.isAgg57
  z232 := Tryd.sizeOf57
  v232 := Tryd.zeroValue57
  t233 := Tryd.underlying58
  a233 := Tryd.isAgg58
  z233 := Tryd.sizeOf58
  v233 := Tryd.zeroValue58
  g17 := by kernel_rfl
  g18 := by kernel_rfl
  g19 := by kernel_rfl
  i0 := by kernel_rfl
  i2 := by kernel_rfl
  i3 := by kernel_rfl
  i4 := by kernel_rfl
  i5 := by kernel_rfl
  i9 := by kernel_rfl
  i20 := by kernel_rfl
  i37 := by kernel_rfl
  i46 := by kernel_rfl
  i51 := by kernel_rfl
  i53 := by kernel_rfl
  i171 := by kernel_rfl
  i173 := by kernel_rfl
  i212 := by kernel_rfl
  i232 := by kernel_rfl
  i233 := by kernel_rfl
  m17 := by kernel_rfl
  m18 := by kernel_rfl
  m19 := by kernel_rfl
}

/-- the listed table of powers of ten -/
def PowLaid (w : World) : Prop := Lib.TabIs Tryd.prog w "internal/strconv.uint64pow10" .u64 Lib.pow10Tab
theorem PowLaid.lt {w : World} (h : PowLaid w) : 0 < w.heap.size :=
  cell_lt (h.cell (g := 0) (by kernel_rfl) 0 (by rw [Lib.pow10Tab_length]; omega))
theorem PowLaid.keep {w w' : World} (h : PowLaid w) (hb : Below w.heap.size w w') : PowLaid w' :=
  var?_below hb (g := 0) (by kernel_rfl) h.lt h
theorem PowLaid.below {w w' : World} {B : Nat} (h : PowLaid w) (hb : Below B w w') (hB : w.heap.size ≤ B) : PowLaid w' := h.keep (hb.mono hB)
theorem PowLaid.drew {w : World} (h : PowLaid w) : PowLaid w.drew := h
theorem tabFact_math_bits_deBruijn32tab {w : World} {zs : List Int} (_ : Lib.TabIs Tryd.prog w "math/bits.deBruijn32tab" .u8 zs) : True := trivial
theorem tabFact_math_bits_deBruijn64tab {w : World} {zs : List Int} (_ : Lib.TabIs Tryd.prog w "math/bits.deBruijn64tab" .u8 zs) : True := trivial
theorem tabFact_internal_strconv_uint64pow10 {w : World} (h : Lib.TabIs Tryd.prog w "internal/strconv.uint64pow10" .u64 Lib.pow10Tab) : PowLaid w := h
/-- digits as plain numbers -/
def decN (u : Nat) : List Nat := if h : u < 10 then [48 + u] else decN (u / 10) ++ [48 + u % 10]
termination_by u
decreasing_by omega
theorem decN_low {u : Nat} (h : u < 10) : decN u = [48 + u] := by rw [decN, dif_pos h]
theorem decN_high {u : Nat} (h : ¬ u < 10) : decN u = decN (u / 10) ++ [48 + u % 10] := by rw [decN, dif_neg h]
theorem decN_lib (u : Nat) : (⟨(Lib.decDigits u).toArray⟩ : ByteArray) = strOf (decN u) := by
  have h : ∀ n u, u ≤ n → Lib.decDigits u = (decN u).map UInt8.ofNat := by
    intro n
    induction n with
    | zero => intro u hu; obtain rfl : u = 0 := by omega
              rw [Lib.decDigits, dif_pos (by omega), decN_low (by omega)]; rfl
    | succ n ih =>
      intro u hu
      by_cases h : u < 10
      · rw [Lib.decDigits, dif_pos h, decN_low h]; rfl
      · rw [Lib.decDigits, dif_neg h, decN_high h, ih (u / 10) (by omega), List.map_append]; rfl
  unfold strOf
  rw [h u u (Nat.le_refl _)]
theorem decN_small {u : Nat} (h : u < 10000000000000000000) : (decN u).length ≤ 20 := by
  have step : ∀ m u, u < 10 ^ (m + 1) → (decN u).length ≤ m + 1 := by
    intro m
    induction m with
    | zero => intro u hu; rw [decN_low (by simpa using hu)]; simp
    | succ m ih =>
      intro u hu
      by_cases h : u < 10
      · rw [decN_low h]; simp
      · rw [decN_high h, List.length_append]
        have := ih (u / 10) (by rw [Nat.pow_succ] at hu; omega)
        simp; omega
  exact Nat.le_trans (step 18 u (by omega)) (by omega)
/-- FormatInt of a number that is not below 0, at base 10 -/
theorem fmt_any {w : World} (u : Nat) (hu : u ≤ 9223372036854775807) (h : PowLaid w) :
    Calls Tryd.prog 16 #[.int .i64 (u : Int), .int .i64 10] w fun e w' => e = .returned (.string (strOf (decN u))) ∧ Below w.heap.size w w' := by
  refine (Any.strconv_FormatInt_10 laysFmt (u : Int) (by omega) (by omega) w h).mono ?_
  rintro e w' ⟨rfl, k, os, rfl⟩
  refine ⟨?_, rfl, rfl, rfl, ?_, fun j hj => ?_⟩
  · rw [← decN_lib]
    unfold Lib.itoa
    rw [if_neg (by omega)]; rfl
  · rw [Sort.grow]; show _ ≤ ((w.drewN k).heap ++ os).size; rw [drewN_heap, Array.size_append]; omega
  · show ((w.drewN k).heap ++ os)[j]? = _
    rw [drewN_heap, Array.getElem?_append_left hj]
end Go.Proofs.YtbcbignlngcoiaaDoor
