/-
  The contract of vote's Next.
-/
import Derived.Test.YtmibohdppgijhaaVotS
namespace Go.Proofs.Ytmibohdppgijhaa
open Go.ChangeShapes Go.WideShapes Go.ChangeAt Go.RowKit

theorem vmeant_on {k m : Int} (h : mnt k = m) (w : World) : Calls Try.prog 22 #[.int .i64 k] w fun e w' => e = .returned (.int .i64 m) ∧ w = w' := by
  subst h; exact vmeant_any k w
set_option maxHeartbeats 8000000 in
theorem vnext_at {k m : Int} (s : Int) (c : Bool) (w : World) (h : mnt k = m) (hs : s = 0 ∨ s = 1 ∨ s = 2 ∨ s = 3 ∨ s = 4 ∨ s = 5) (hm : m = 6 ∨ m = 9 ∨ m = 10 ∨ m = 12) :
    Calls Try.prog 10 #[.int .i64 s, .int .i64 k, .bool c] w fun e w' => e = .returned (.tuple #[.int .i64 (nxS s m c), .int .i64 (nxK s m c)]) ∧ w = w' := by
  have H := hide h
  clear h
  rcases hs with rfl | rfl | rfl | rfl | rfl | rfl <;> rcases hm with rfl | rfl | rfl | rfl
  all_goals
    go_enter Try.func10, Try.ntmps10
    go_wp2_with (first
      | (go_at_call 22; refine (vmeant_on H.out _).mono ?_; rintro e u ⟨rfl, rfl⟩)
      | (go_at_call 23; refine (vfirst_any _ _).mono ?_; rintro e u ⟨rfl, rfl⟩)
      | (refine wpList_build_met rfl _ _ rfl _ _ rfl rfl ?_)
      | (refine wpList_eql_met rfl _ _ rfl _ _ _ _ rfl rfl _ rfl ?_))
    go_ret2
    exact ⟨rfl, rfl⟩
set_option maxHeartbeats 2000000 in
theorem vnext_any (s k : Int) (c : Bool) (w : World) : Calls Try.prog 10 #[.int .i64 s, .int .i64 k, .bool c] w fun e w' => e = .returned (.tuple #[.int .i64 (nxS s (mnt k) c), .int .i64 (nxK s (mnt k) c)]) ∧ w = w' := by
  obtain ⟨m, hm⟩ : ∃ m, mnt k = m := ⟨_, rfl⟩
  rw [hm]
  have H := hide hm
  clear hm
  by_cases hs : s < 0 ∨ 5 < s
  · rw [(nx_out hs).1, (nx_out hs).2]
    have q0 : (s == 0) = false := by simp; omega
    have q1 : (s == 1) = false := by simp; omega
    have q2 : (s == 2) = false := by simp; omega
    have q3 : (s == 3) = false := by simp; omega
    have q4 : (s == 4) = false := by simp; omega
    have q5 : (s == 5) = false := by simp; omega
    clear hs
    go_enter Try.func10, Try.ntmps10
    go_wp2_with (first | (go_at_call 22; refine (vmeant_on H.out _).mono ?_; rintro e u ⟨rfl, rfl⟩) | (refine wpList_build_met rfl _ _ rfl _ _ rfl rfl ?_) | (refine wpList_eql_met rfl _ _ rfl _ _ _ _ rfl rfl _ rfl ?_))
    go_ret2
    exact ⟨rfl, rfl⟩
  by_cases hq : m ≠ 6 ∧ m ≠ 9 ∧ m ≠ 10 ∧ m ≠ 12
  · rw [(nx_no hq).1, (nx_no hq).2]
    have q0 : (m == 6) = false := by simp; omega
    have q1 : (m == 9) = false := by simp; omega
    have q2 : (m == 10) = false := by simp; omega
    have q3 : (m == 12) = false := by simp; omega
    clear hs hq
    go_enter Try.func10, Try.ntmps10
    go_wp2_with (first | (go_at_call 22; refine (vmeant_on H.out _).mono ?_; rintro e u ⟨rfl, rfl⟩) | (refine wpList_build_met rfl _ _ rfl _ _ rfl rfl ?_) | (refine wpList_eql_met rfl _ _ rfl _ _ _ _ rfl rfl _ rfl ?_))
    go_ret2
    exact ⟨rfl, rfl⟩
  exact vnext_at s c w H.out (by omega) (by omega)
end Go.Proofs.Ytmibohdppgijhaa
