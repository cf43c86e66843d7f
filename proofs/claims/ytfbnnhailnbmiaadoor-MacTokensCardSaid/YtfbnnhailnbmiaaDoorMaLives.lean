/- Stage 6: the laws' fixed fact. -/
import Derived.Test.YtfbnnhailnbmiaaDoorMaCheck
namespace Go.Proofs.YtfbnnhailnbmiaaDoor
open Go.RowKit

def jefeT : List Nat := [74, 101, 102, 101]
def askT : List Nat := [119, 104, 97, 116, 32, 100, 111, 32, 121, 97, 32, 119, 97, 110, 116, 32, 102, 111, 114, 32, 110, 111, 116, 104, 105, 110, 103, 63]
theorem ords_a : ordsOf ⟨#[97]⟩ = [97] := by decide +kernel
/-- a token checks as its name -/
theorem check_own {key : List Nat} {s n m : ByteArray} {ok : Bool} (h : CheckIs key s n ok) (hs : ordsOf s = tokenB key (ordsOf m)) : n = m ∧ ok = true := by
  rcases h with ⟨h1, h2⟩ | ⟨_, _, h2⟩
  · rw [hs] at h2
    exact ⟨ords_inj (dot_once h2 (endB_dot key (ordsOf m)) (endB_dot key (ordsOf n))).1.symm, h1⟩
  · exact absurd hs (h2 _)
theorem ords_token {key name : List Nat} (hn : ∀ x ∈ name, x < 256) : ordsOf (strOf (tokenB key name)) = tokenB key name := ords_strOf (fun x hx => by
  rcases List.mem_append.1 hx with h | h
  · exact hn x h
  · rcases List.mem_cons.1 h with rfl | h
    · decide
    · exact endB_lt _ _ x h)

set_option maxHeartbeats 8000000 in
set_option maxRecDepth 1000000 in
theorem lives_any (w : World) (htab : Tabs w) :
    Calls Tryd.prog 7 #[] w fun e w' => e = .returned (.bool true) ∧ Below w.heap.size w w' := by
  have HT := Lib.hid htab
  obtain ⟨TK, hTK⟩ : ∃ t, t = strOf (tokenB [107, 101, 121] (ordsOf ⟨#[97]⟩)) := ⟨_, rfl⟩
  have HTOK : Hid (∀ W P, Below w.heap.size w W → Lies W (.slice (some ⟨P, 0, none⟩) 3 3) [107, 101, 121] → Calls Tryd.prog 10 #[.slice (some ⟨P, 0, none⟩) 3 3, .string ⟨#[97]⟩] W fun e w' => e = .returned (.string TK) ∧ Below W.heap.size W w') := Lib.hid fun W P hW hl => by
    rw [hTK]; exact token_text hl (fits_slice (Nat.le_refl _)) (by decide) (by decide) (by decide) (HT.out.keep hW)
  have HCHK : Hid (∀ W P, Below w.heap.size w W → Lies W (.slice (some ⟨P, 0, none⟩) 3 3) [107, 101, 121] → Calls Tryd.prog 11 #[.slice (some ⟨P, 0, none⟩) 3 3, .string TK] W fun e w' => e = .returned (.tuple #[.string ⟨#[97]⟩, .bool true]) ∧ Below W.heap.size W w') := Lib.hid fun W P hW hl => by
    refine (check_text (s := TK) hl (fits_slice (Nat.le_refl _)) (by decide) (by decide) (by rw [hTK, strOf_size, tokenB_len]; decide) (HT.out.keep hW)).mono ?_
    rintro e w' ⟨⟨n, ok, rfl, hc⟩, hb⟩
    obtain ⟨rfl, rfl⟩ := check_own hc (m := ⟨#[97]⟩) (by rw [hTK]; exact ords_token (by decide))
    exact ⟨rfl, hb⟩
  obtain ⟨C, hC⟩ : ∃ C, C = codeB jefeT askT := ⟨_, rfl⟩
  obtain ⟨L, hL⟩ : ∃ L, L = u8s C := ⟨_, rfl⟩
  have hCl : C.length = 32 := by rw [hC, codeB_len]
  have hLz : L.toArray.size = 32 := by rw [hL]; simp [u8s_length, hCl]
  have HI32 : Hid ((Tryd.prog.info? 25).map (·.size) = some L.toArray.size) := Lib.hid (by rw [hLz]; kernel_rfl)
  have HAL32 : Hid (L.toArray.all (·.oneCell') = true) := Lib.hid (by rw [hL]; exact all_one (u8s_one _))
  have HSZ32 : Hid ((u8s (List.replicate 32 0)).toArray.size = L.toArray.size) := Lib.hid (by rw [hLz]; rfl)
  have HCODE : Hid (∀ W P Q, Below w.heap.size w W → Lies W (.slice (some ⟨P, 0, none⟩) 4 4) jefeT → Lies W (.slice (some ⟨Q, 0, none⟩) 28 28) askT → Calls Tryd.prog 8 #[.slice (some ⟨P, 0, none⟩) 4 4, .slice (some ⟨Q, 0, none⟩) 28 28] W fun e w' => e = .returned (.agg L.toArray) ∧ Below W.heap.size W w') := Lib.hid fun W P Q hW h1 h2 => by
    rw [hL, hC]; exact code_any h1 (fits_slice (Nat.le_refl _)) (by decide) (by decide) h2 (fits_slice (Nat.le_refl _)) (by decide) (by decide) (HT.out.keep hW)
  have HL0 : Hid (L[0]? = some (.int .u8 91) ∧ L[1]? = some (.int .u8 220) ∧ L[31]? = some (.int .u8 67)) := Lib.hid (by
    obtain ⟨h0, h1, h2⟩ := jefe
    rw [hL, u8s_getD C 0 (by omega), u8s_getD C 1 (by omega), u8s_getD C 31 (by omega), hC]
    refine ⟨?_, ?_, ?_⟩
    · rw [show codeB jefeT askT = codeB [74, 101, 102, 101] [119, 104, 97, 116, 32, 100, 111, 32, 121, 97, 32, 119, 97, 110, 116, 32, 102, 111, 114, 32, 110, 111, 116, 104, 105, 110, 103, 63] from rfl, h0]; rfl
    · rw [show codeB jefeT askT = codeB [74, 101, 102, 101] [119, 104, 97, 116, 32, 100, 111, 32, 121, 97, 32, 119, 97, 110, 116, 32, 102, 111, 114, 32, 110, 111, 116, 104, 105, 110, 103, 63] from rfl, h1]; rfl
    · rw [show codeB jefeT askT = codeB [74, 101, 102, 101] [119, 104, 97, 116, 32, 100, 111, 32, 121, 97, 32, 119, 97, 110, 116, 32, 102, 111, 114, 32, 110, 111, 116, 104, 105, 110, 103, 63] from rfl, h2]; rfl)
  clear htab hTK hC hL hCl hLz
  go_enter Tryd.func7, Tryd.ntmps7
  repeat (first | (refine wpList_conv_const rfl 22 5 (.tmp 5) rfl (u8s [107, 101, 121]).toArray 3 3 (by rfl) Tryd.underlying22 Tryd.underlying5 ?_; refine wpList_name ?_; intro W1 hW1; have HBW1 : Hid (Below w.heap.size w W1) := Lib.hid (by rw [hW1.out]; exact (Below.refl _ _).alloc (Nat.le_refl _) _); have HLW1 : Hid (Lies W1 (.slice (some ⟨w.heap.size, 0, none⟩) 3 3) [107, 101, 121]) := Lib.hid (by rw [hW1.out]; exact const_lies w [107, 101, 121] _); clear hW1) | (refine wpList_conv_const rfl 22 5 (.tmp 7) rfl (u8s [107, 101, 121]).toArray 3 3 (by rfl) Tryd.underlying22 Tryd.underlying5 ?_; refine wpList_name ?_; intro W2 hW2; have HBW2 : Hid (Below W1.heap.size W1 W2) := Lib.hid (by rw [hW2.out]; exact (Below.refl _ _).alloc (Nat.le_refl _) _); have HLW2 : Hid (Lies W2 (.slice (some ⟨W1.heap.size, 0, none⟩) 3 3) [107, 101, 121]) := Lib.hid (by rw [hW2.out]; exact const_lies W1 [107, 101, 121] _); clear hW2; have HBW := Lib.hid (HBW1.out.trans (HBW2.out.mono HBW1.out.size)); have HK2 := Lib.hid (lies_keep HLW1.out HBW2.out)) | go_values | go_skip | go_guarded | go_step)
  refine (HTOK.out W2 _ HBW.out HLW2.out).mono ?_
  rintro e W3 ⟨rfl, hb⟩
  have HB3 := Lib.hid (HBW.out.trans (hb.mono HBW.out.size))
  have HK3 := Lib.hid (lies_keep HK2.out hb)
  clear hb HBW1 HBW2 HLW1 HLW2 HK2 HBW
  dsimp only
  repeat (first | go_values | go_skip | go_guarded | go_step)
  refine (HCHK.out W3 _ HB3.out HK3.out).mono ?_
  rintro e W4 ⟨rfl, hb⟩
  have HB4 := Lib.hid (HB3.out.trans (hb.mono HB3.out.size))
  clear hb HB3 HK3
  dsimp only
  repeat (first | (refine wpList_conv_const rfl 22 5 (.tmp 13) rfl (u8s jefeT).toArray 4 4 (by rfl) Tryd.underlying22 Tryd.underlying5 ?_; refine wpList_name ?_; intro W5 hW5; have HBW5 : Hid (Below W4.heap.size W4 W5) := Lib.hid (by rw [hW5.out]; exact (Below.refl _ _).alloc (Nat.le_refl _) _); have HLW5 : Hid (Lies W5 (.slice (some ⟨W4.heap.size, 0, none⟩) 4 4) jefeT) := Lib.hid (by rw [hW5.out]; exact const_lies W4 jefeT _); clear hW5) | (refine wpList_conv_const rfl 22 5 (.tmp 15) rfl (u8s askT).toArray 28 28 (by rfl) Tryd.underlying22 Tryd.underlying5 ?_; refine wpList_name ?_; intro W6 hW6; have HBW6 : Hid (Below W5.heap.size W5 W6) := Lib.hid (by rw [hW6.out]; exact (Below.refl _ _).alloc (Nat.le_refl _) _); have HLW6 : Hid (Lies W6 (.slice (some ⟨W5.heap.size, 0, none⟩) 28 28) askT) := Lib.hid (by rw [hW6.out]; exact const_lies W5 askT _); clear hW6; have HBX := Lib.hid (HB4.out.trans ((HBW5.out.trans (HBW6.out.mono HBW5.out.size)).mono HB4.out.size)); have HK6 := Lib.hid (lies_keep HLW5.out HBW6.out)) | go_values | go_skip | go_guarded | go_step)
  refine (HCODE.out W6 _ _ HBX.out HK6.out HLW6.out).mono ?_
  rintro e W7 ⟨rfl, hb⟩
  have HB7 := Lib.hid (HBX.out.trans (hb.mono HBX.out.size))
  clear hb HBX HK6 HLW6 HBW5 HBW6 HLW5
  dsimp only
  repeat (first | (refine wpList_store_row rfl 25 (.tmp 3) (.tmp 17) rfl W7.heap.size L.toArray (by rfl) (by rfl) 25 (u8s (List.replicate 32 0)).toArray (arr_new W7 _ (u8s (List.replicate 32 0))) HI32.out HSZ32.out HAL32.out ?_; refine wpList_name ?_; intro W8 hW8; have HA8 := Lib.hid (show Arr W8 W7.heap.size 25 L by rw [hW8.out]; exact Arr.stored (arr_new W7 _ (u8s (List.replicate 32 0)))); have HB8 := Lib.hid (show Below w.heap.size w W8 by rw [hW8.out]; exact below_setRow (HB7.out.trans ((Below.refl W7.heap.size W7).alloc (Nat.le_refl _) _ |>.mono HB7.out.size)) HB7.out.size _); clear hW8; have d0 := HA8.out.cell HL0.out.1; have d1 := HA8.out.cell HL0.out.2.1; have d31 := HA8.out.cell HL0.out.2.2) | go_values | go_skip | go_guarded | go_step | go_upon)
  go_ret
  exact ⟨rfl, HB8.out⟩
end Go.Proofs.YtfbnnhailnbmiaaDoor
