/-
  The walk of CheckForms: check's Read, Letters and Sign answer as the reference's do.
-/
import Derived.Test.YtolbfdngjkajgaaChkR
namespace Go.Proofs.Ytolbfdngjkajgaa
open Go.ChangeShapes Go.WideShapes Go.ChangeAt Go.RowKit

set_option maxHeartbeats 1000000 in
theorem checkForms_walk (a0 : ByteArray) (w0 : a0.size ≤ maxLen) (w : World) :
    Calls Try.prog 3 #[.string a0] w fun e w' => e = .returned (.bool true) ∧ Below w.heap.size w w' := by
  by_cases h : (a0.size : Int) > 2000
  · go_enter Try.func3, Try.ntmps3
    go_wp2_with (go_at_call 9; refine (awake_any _).mono ?_; rintro e w1 ⟨rfl, hb1⟩)
    go_ret
    exact ⟨rfl, hb1⟩
  · have hs : a0.size ≤ 140737488355328 := by omega
    go_enter Try.func3, Try.ntmps3
    go_wp2_with (first
      | (go_at_call 10; refine (read_any _ _ hs).mono ?_; rintro e w1 ⟨rfl, hb1⟩)
      | (go_at_call 11; refine (ref_read_any _ _ hs).mono ?_; rintro e w2 ⟨rfl, hb2⟩)
      | (go_at_call 12; refine (letters_any _ _ w0).mono ?_; rintro e w3 ⟨rfl, hb3⟩)
      | (go_at_call 13; refine (ref_letters_any _ _ w0).mono ?_; rintro e w4 ⟨rfl, hb4⟩)
      | (go_at_call 14; refine (sign_any _ _ hs).mono ?_; rintro e w5 ⟨rfl, hb5⟩)
      | (go_at_call 15; refine (ref_sign_any _ _ hs).mono ?_; rintro e w6 ⟨rfl, hb6⟩)
      | (go_at_call 9; refine (awake_any _).mono ?_; rintro e w7 ⟨rfl, hb7⟩))
    go_ret
    exact ⟨rfl, ((((((hb1.trans (hb2.mono hb1.size)).trans (hb3.mono (Nat.le_trans hb1.size hb2.size)))).trans (hb4.mono (by have := hb1.size; have := hb2.size; have := hb3.size; omega))).trans (hb5.mono (by have := hb1.size; have := hb2.size; have := hb3.size; have := hb4.size; omega))).trans (hb6.mono (by have := hb1.size; have := hb2.size; have := hb3.size; have := hb4.size; have := hb5.size; omega))).trans (hb7.mono (by have := hb1.size; have := hb2.size; have := hb3.size; have := hb4.size; have := hb5.size; have := hb6.size; omega))⟩
end Go.Proofs.Ytolbfdngjkajgaa
