/- NumsAdds walked: sums, differences and other signs are the document's. -/
import Derived.Test.YtfblnijoojhkeaaDoorNumLives
import Derived.Lib.Hide
namespace Go.Proofs.YtfblnijoojhkeaaDoor
open Go.RowKit

set_option maxHeartbeats 400000 in
theorem numsAdds_least {a : Int} (ha : -9223372036854775808 ≤ a) (ha' : a ≤ 9223372036854775807) (hb : -9223372036854775808 ≤ (-9223372036854775808 : Int)) (hb' : (-9223372036854775808 : Int) ≤ 9223372036854775807) (w : World) (hl : StepsLaid w) :
    Calls Tryd.prog 3 #[.int .i64 a, .int .i64 (-9223372036854775808)] w fun e w' => e = .returned (.bool true) ∧ w = w' := by
  have hs : sat (-(-9223372036854775808)) = 9223372036854775807 := by decide
  by_cases h1 : 0 ≤ a
  · have hna : -9223372036854775808 < a := by omega
    have e3 : sat (-a) = -a := sat_in (by omega) (by omega)
    have e2 : sat (a + 9223372036854775808) = 9223372036854775807 := sat_over (by omega)
    go_enter Tryd.func3, Tryd.ntmps3
    go_wp2_with (first | (go_at_call 9; refine (lives01 _ hl).mono ?_; rintro e w' ⟨rfl, rfl⟩) | (go_at_call 11; refine (add_any ha ha' hb hb' _).mono ?_; rintro e w' ⟨rfl, rfl⟩) | (go_at_call 13; refine (sub_any ha ha' hb hb' _).mono ?_; rintro e w' ⟨rfl, rfl⟩) | (go_at_call 12; refine (neg_any ha ha' _).mono ?_; rintro e w' ⟨rfl, rfl⟩) | (go_at_call 10; refine (sum01 ha ha' (by omega) (by omega) _).mono ?_; rintro e w' ⟨rfl, rfl⟩))
    
    go_ret
    exact ⟨rfl, rfl⟩
  · have e2 : sat (a + 9223372036854775808) = a + 9223372036854775808 := sat_in (by omega) (by omega)
    by_cases h2 : a = -9223372036854775808
    · subst h2
      go_enter Tryd.func3, Tryd.ntmps3
      go_wp2_with (first | (go_at_call 9; refine (lives01 _ hl).mono ?_; rintro e w' ⟨rfl, rfl⟩) | (go_at_call 11; refine (add_any ha ha' hb hb' _).mono ?_; rintro e w' ⟨rfl, rfl⟩) | (go_at_call 13; refine (sub_any ha ha' hb hb' _).mono ?_; rintro e w' ⟨rfl, rfl⟩) | (go_at_call 12; refine (neg_any ha ha' _).mono ?_; rintro e w' ⟨rfl, rfl⟩) | (go_at_call 10; refine (sum01 ha ha' (by omega) (by omega) _).mono ?_; rintro e w' ⟨rfl, rfl⟩))
      
      go_ret
      exact ⟨rfl, rfl⟩
    · have hna : -9223372036854775808 < a := by omega
      clear h2
      have e3 : sat (-a) = -a := sat_in (by omega) (by omega)
      go_enter Tryd.func3, Tryd.ntmps3
      go_wp2_with (first | (go_at_call 9; refine (lives01 _ hl).mono ?_; rintro e w' ⟨rfl, rfl⟩) | (go_at_call 11; refine (add_any ha ha' hb hb' _).mono ?_; rintro e w' ⟨rfl, rfl⟩) | (go_at_call 13; refine (sub_any ha ha' hb hb' _).mono ?_; rintro e w' ⟨rfl, rfl⟩) | (go_at_call 12; refine (neg_any ha ha' _).mono ?_; rintro e w' ⟨rfl, rfl⟩) | (go_at_call 10; refine (sum01 ha ha' (by omega) (by omega) _).mono ?_; rintro e w' ⟨rfl, rfl⟩))
      
      go_ret
      exact ⟨rfl, rfl⟩

set_option maxHeartbeats 400000 in
theorem numsAdds_walk {a b : Int} (ha : -9223372036854775808 ≤ a) (ha' : a ≤ 9223372036854775807) (hb : -9223372036854775808 ≤ b) (hb' : b ≤ 9223372036854775807) (w : World) (hl : StepsLaid w) :
    Calls Tryd.prog 3 #[.int .i64 a, .int .i64 b] w fun e w' => e = .returned (.bool true) ∧ w = w' := by
  by_cases h1 : b = -9223372036854775808
  · subst h1
    exact numsAdds_least ha ha' hb hb' w hl
  · have hnb : -9223372036854775808 < b := by omega
    clear h1
    have e2 : sat (a + -b) = sat (a - b) := by rw [Int.sub_eq_add_neg]
    by_cases h2 : a = -9223372036854775808
    · subst h2
      have hs : sat (-(-9223372036854775808)) = 9223372036854775807 := by decide
      go_enter Tryd.func3, Tryd.ntmps3
      go_wp2_with (first | (go_at_call 9; refine (lives01 _ hl).mono ?_; rintro e w' ⟨rfl, rfl⟩) | (go_at_call 11; refine (add_any ha ha' hb hb' _).mono ?_; rintro e w' ⟨rfl, rfl⟩) | (go_at_call 13; refine (sub_any ha ha' hb hb' _).mono ?_; rintro e w' ⟨rfl, rfl⟩) | (go_at_call 12; refine (neg_any ha ha' _).mono ?_; rintro e w' ⟨rfl, rfl⟩) | (go_at_call 10; refine (sum01 ha ha' (by omega) (by omega) _).mono ?_; rintro e w' ⟨rfl, rfl⟩))
      
      go_ret
      exact ⟨rfl, rfl⟩
    · have hna : -9223372036854775808 < a := by omega
      clear h2
      have e3 : sat (-a) = -a := sat_in (by omega) (by omega)
      go_enter Tryd.func3, Tryd.ntmps3
      go_wp2_with (first | (go_at_call 9; refine (lives01 _ hl).mono ?_; rintro e w' ⟨rfl, rfl⟩) | (go_at_call 11; refine (add_any ha ha' hb hb' _).mono ?_; rintro e w' ⟨rfl, rfl⟩) | (go_at_call 13; refine (sub_any ha ha' hb hb' _).mono ?_; rintro e w' ⟨rfl, rfl⟩) | (go_at_call 12; refine (neg_any ha ha' _).mono ?_; rintro e w' ⟨rfl, rfl⟩) | (go_at_call 10; refine (sum01 ha ha' (by omega) (by omega) _).mono ?_; rintro e w' ⟨rfl, rfl⟩))
      
      go_ret
      exact ⟨rfl, rfl⟩
end Go.Proofs.YtfblnijoojhkeaaDoor
