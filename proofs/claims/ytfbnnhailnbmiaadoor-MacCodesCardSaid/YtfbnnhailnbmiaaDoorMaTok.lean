/- Package mac: a name's token. -/
import Derived.Test.YtfbnnhailnbmiaaDoorMaEnd
namespace Go.Proofs.YtfbnnhailnbmiaaDoor
open Go.RowKit

theorem token_str (name : ByteArray) (l : List Nat) : name ++ ⟨#[46]⟩ ++ strOf l = strOf (ordsOf name ++ 46 :: l) := by
  rw [strOf_append, strOf_ords, show (46 :: l) = [46] ++ l from rfl, strOf_append]
  apply ByteArray.ext
  simp [strOf]

set_option maxHeartbeats 2000000 in
theorem token_text {w : World} {vk : Value} {key : List Nat} {name : ByteArray} (hk : Lies w vk key) (hkf : Fits vk) (hkb : ∀ y ∈ key, y < 256) (hkn : key.length < 100000000) (hn : name.size < 100000000) (htab : Tabs w) :
    Calls Tryd.prog 10 #[vk, .string name] w fun e w' => e = .returned (.string (strOf (tokenB key (ordsOf name)))) ∧ Below w.heap.size w w' := by
  have HE := Lib.hid (ending_text (name := name) hk hkf hkb hkn hn htab)
  obtain ⟨l, hl⟩ : ∃ l, l = endB key (ordsOf name) := ⟨_, rfl⟩
  have HT : Hid (strOf (tokenB key (ordsOf name)) = name ++ ⟨#[46]⟩ ++ strOf l) := Lib.hid (by rw [token_str, hl]; rfl)
  have hz : (strOf l).size = 32 := by rw [strOf_size, hl, endB_len]
  rw [← hl] at HE
  rw [HT.out]
  clear hk hkf hkb hkn htab hl
  go_enter Tryd.func10, Tryd.ntmps10
  repeat (first | go_values | go_skip | go_guarded | go_step | go_upon)
  refine HE.out.mono ?_
  rintro e w1 ⟨⟨v, B, rfl, _, hown⟩, hb⟩
  have HB := Lib.hid hb
  have htx := text_of (ownsRow_lies hown) 9 Tryd.underlying9
  clear hown hb
  dsimp only
  repeat (first | go_values | go_skip | go_guarded | go_step | go_upon)
  go_ret
  exact ⟨rfl, HB.out⟩
end Go.Proofs.YtfbnnhailnbmiaaDoor
