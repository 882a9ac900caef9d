/-
  The walk of CheckBack: what is signed is read and nothing else.
-/
import Derived.Test.YtolbfdngjkajgaaChkR
import Derived.Deep.RegionWith
namespace Go.Proofs.Ytolbfdngjkajgaa
open Go.ChangeShapes Go.WideShapes Go.ChangeAt Go.RowKit

theorem bel_on {w w1 w2 : World} (h1 : Below w.heap.size w w1) (h2 : Below w1.heap.size w1 w2) : Below w.heap.size w w2 := h1.trans (h2.mono h1.size)

theorem bel_drewN (w : World) (n : Nat) : Below w.heap.size w (w.drewN n) := by
  induction n with
  | zero => exact Below.refl _ _
  | succ n ih => exact bel_on ih ((Below.refl _ _).drew)

theorem sign_size' (s : ByteArray) : ((sign s).size : Int) = s.size + 3 := by rw [sign_size]; rfl

theorem head_sign (s : ByteArray) : head (sign s) = s := by
  apply ByteArray.ext
  apply Array.toList_inj.1
  rw [head_list, sign_size, ← ByteArray.toList_eq (sign s), sign_list]
  have e : s.size + 3 - 3 = s.data.toList.length := by rw [← Lib.size_eq]; omega
  rw [e, List.take_left]

theorem read_sign (s : ByteArray) : readB (sign s) = true ∧ readV (sign s) = s := by
  have e : readB (sign s) = true := by unfold readB; rw [head_sign, sign_size]; simp
  exact ⟨e, by unfold readV; rw [if_pos e, head_sign]⟩

theorem sign_read (t : ByteArray) (h : readB t = true) : ((sign (readV t)).toList == t.toList) = true := by
  unfold readV
  rw [if_pos h]
  unfold readB at h
  rw [Bool.and_eq_true] at h
  exact h.2

theorem readV_le (t : ByteArray) (h : t.size ≤ 140737488355328) : (readV t).size ≤ 140737488355328 := by
  unfold readV
  split
  · unfold head; simp; omega
  · exact Nat.zero_le _

set_option maxHeartbeats 1000000 in
theorem checkBack_walk (a0 a1 : ByteArray) (_w0 : a0.size ≤ maxLen) (_w1 : a1.size ≤ maxLen) (w : World) :
    Calls Try.prog 4 #[.string a0, .string a1] w fun e w' => e = .returned (.bool true) ∧ Below w.heap.size w w' := by
  by_cases h : (a0.size : Int) > 1000
  · go_enter Try.func4, Try.ntmps4
    go_wp2_with (go_at_call 9; refine (awake_any _).mono ?_; rintro e w1 ⟨rfl, hb1⟩)
    go_ret
    exact ⟨rfl, hb1⟩
  by_cases h' : (a1.size : Int) > 1000
  · go_enter Try.func4, Try.ntmps4
    go_wp2_with (go_at_call 9; refine (awake_any _).mono ?_; rintro e w1 ⟨rfl, hb1⟩)
    go_ret
    exact ⟨rfl, hb1⟩
  have hs : a0.size ≤ 140737488355328 := by omega
  have ht : a1.size ≤ 140737488355328 := by omega
  have hg : (sign a0).size ≤ 140737488355328 := by rw [sign_size]; omega
  have hz := sign_size' a0
  have hv := readV_le a1 ht
  obtain ⟨r1, r2⟩ := read_sign a0
  by_cases hb : readB a1 = true
  · have hr := sign_read a1 hb
    go_enter Try.func4, Try.ntmps4
    go_wp2_with (first
      | (go_at_call_of 10 (Value.string (sign a0)); refine (read_any (sign a0) _ hg).mono ?_; rw [r1, r2]; rintro e w3 ⟨rfl, hb3⟩)
      | (go_at_call_of 10 (Value.string a1); refine (read_any a1 _ ht).mono ?_; rintro e w4 ⟨rfl, hb4⟩)
      | (go_at_call_of 14 (Value.string a0); refine (sign_any a0 _ hs).mono ?_; rintro e w2 ⟨rfl, hb2⟩)
      | (go_at_call_of 14 (Value.string (readV a1)); refine (sign_any _ _ hv).mono ?_; rintro e w5 ⟨rfl, hb5⟩)
      | (go_at_call 9; refine (awake_any _).mono ?_; rintro e w7 ⟨rfl, hb7⟩))
    go_ret
    exact ⟨rfl, bel_on (bel_on (bel_on (bel_on hb2 hb3) hb4) hb5) hb7⟩
  · have hb' : readB a1 = false := by simpa using hb
    go_enter Try.func4, Try.ntmps4
    go_wp2_with (first
      | (go_at_call_of 10 (Value.string (sign a0)); refine (read_any (sign a0) _ hg).mono ?_; rw [r1, r2]; rintro e w3 ⟨rfl, hb3⟩)
      | (go_at_call_of 10 (Value.string a1); refine (read_any a1 _ ht).mono ?_; rintro e w4 ⟨rfl, hb4⟩)
      | (go_at_call_of 14 (Value.string a0); refine (sign_any a0 _ hs).mono ?_; rintro e w2 ⟨rfl, hb2⟩)
      | (go_at_call 9; refine (awake_any _).mono ?_; rintro e w7 ⟨rfl, hb7⟩))
    go_ret
    exact ⟨rfl, bel_on (bel_on (bel_on hb2 hb3) hb4) hb7⟩
end Go.Proofs.Ytolbfdngjkajgaa
