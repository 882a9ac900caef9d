/-
  The walk of CheckShift: a nought ahead makes the letters' number three times as much, modulo 673.
-/
import Derived.Test.YtolbfdngjkajgaaCBack
namespace Go.Proofs.Ytolbfdngjkajgaa
open Go.ChangeShapes Go.WideShapes Go.ChangeAt Go.RowKit

theorem num_shift (s : ByteArray) : num (⟨#[0]⟩ ++ s) = 3 * num s % 673 := by
  unfold num
  rw [ByteArray.data_append, Array.toList_append]
  simp only [List.cons_append, List.nil_append, wsum]
  have : (0 : UInt8).toNat = 0 := rfl
  rw [this]
  omega

theorem lets_at0 (s : ByteArray) (W : World) : (Instr.index 9 (.string (lets s)) (.int .i64 0)).run Try.prog W = .ok (.int .u8 (97 + (num s : Int) / 26)) W := by
  rw [run_index_string _ _ _ _ _ Try.underlying9, dif_pos (by rw [lets_size]; omega)]
  rw [← let0_nat _ (num_lt s)]
  rfl
theorem lets_at1 (s : ByteArray) (W : World) : (Instr.index 9 (.string (lets s)) (.int .i64 1)).run Try.prog W = .ok (.int .u8 (97 + (num s : Int) % 26)) W := by
  rw [run_index_string _ _ _ _ _ Try.underlying9, dif_pos (by rw [lets_size]; omega)]
  rw [← let1_nat]
  rfl

set_option maxHeartbeats 1000000 in
set_option maxRecDepth 100000 in
theorem checkShift_walk (a0 : ByteArray) (w0 : a0.size ≤ maxLen) (w : World) :
    Calls Try.prog 7 #[.string a0] w fun e w' => e = .returned (.bool true) ∧ Below w.heap.size w w' := by
  by_cases h : (a0.size : Int) > 500
  · go_enter Try.func7, Try.ntmps7
    go_wp2_with (go_at_call 9; refine (awake_any _).mono ?_; rintro e w1 ⟨rfl, hb1⟩)
    go_ret
    exact ⟨rfl, hb1⟩
  have hl := lets_size a0
  have hl' := lets_size (⟨#[0]⟩ ++ a0)
  have hm : ((⟨#[0]⟩ : ByteArray) ++ a0).size ≤ maxLen := by unfold maxLen; rw [ByteArray.size_append]; have : (⟨#[0]⟩ : ByteArray).size = 1 := rfl; omega
  have f0 := lets_at0 a0
  have f1 := lets_at1 a0
  have g0 := lets_at0 (⟨#[0]⟩ ++ a0)
  have g1 := lets_at1 (⟨#[0]⟩ ++ a0)
  have hn := num_lt a0
  have hn' := num_lt (⟨#[0]⟩ ++ a0)
  have HN : Hid _ := num_shift a0
  obtain ⟨n, en⟩ : ∃ n, num a0 = n := ⟨_, rfl⟩
  obtain ⟨m, em⟩ : ∃ m, num (⟨#[0]⟩ ++ a0) = m := ⟨_, rfl⟩
  rw [en] at f0 f1 hn HN
  rw [em] at g0 g1 hn' HN
  clear en em
  go_enter Try.func7, Try.ntmps7
  go_wp2_with (first
    | (go_at_call_of 12 (Value.string a0); refine (letters_any a0 _ w0).mono ?_; rintro e w2 ⟨rfl, hb2⟩)
    | (go_at_call 12; refine (letters_any _ _ hm).mono ?_; rintro e w3 ⟨rfl, hb3⟩))
  go_quiet (fail)
  have e1 : 26 * (97 + (n : Int) / 26 - 97) + (97 + (n : Int) % 26 - 97) = n := by omega
  have e2 : 26 * (97 + (m : Int) / 26 - 97) + (97 + (m : Int) % 26 - 97) = 3 * (n : Int) % 673 := by have := HN.out; omega
  rw [e1, e2]
  clear e1 e2 HN
  go_wp2_with (go_at_call 9; refine (awake_any _).mono ?_; rintro e w7 ⟨rfl, hb7⟩)
  go_ret
  exact ⟨rfl, bel_on (bel_on (bel_on hb2 hb3) (bel_drewN _ _)) hb7⟩
end Go.Proofs.Ytolbfdngjkajgaa
