/-
  The contract of vote's follows.
-/
import Derived.Test.YtmibohdppgijhaaVotS
namespace Go.Proofs.Ytmibohdppgijhaa
open Go.ChangeShapes Go.WideShapes Go.ChangeAt Go.RowKit

set_option maxHeartbeats 4000000 in
theorem vfol_any (p s : Int) (w : World) : Calls Try.prog 24 #[.int .i64 p, .int .i64 s] w fun e w' => e = .returned (.bool (folV p s)) ∧ w = w' := by
  by_cases a : s = p
  · subst a
    have e : folV s s = true := by unfold folV; simp
    rw [e]
    clear e
    go_enter Try.func24, Try.ntmps24
    go_wp2_with (first | (refine wpList_build_stp rfl _ _ rfl _ _ rfl rfl ?_) | (refine wpList_eql_stp rfl _ _ rfl _ _ _ _ rfl rfl _ rfl ?_))
    go_ret
    exact ⟨rfl, rfl⟩
  have qa : (s == p) = false := by simp [a]
  by_cases b : p = 0
  · subst b
    rcases st_cases s with rfl | rfl | rfl | rfl | rfl | rfl | h
    case inr.inr.inr.inr.inr.inr =>
      have e : folV 0 s = false := by unfold folV; simp; omega
      rw [e]
      have q0 : (s == 0) = false := by simp; omega
      have q1 : (s == 1) = false := by simp; omega
      have q2 : (s == 2) = false := by simp; omega
      have q3 : (s == 3) = false := by simp; omega
      have q4 : (s == 4) = false := by simp; omega
      have q5 : (s == 5) = false := by simp; omega
      clear h e a qa
      go_enter Try.func24, Try.ntmps24
      go_wp2_with (first | (refine wpList_build_stp rfl _ _ rfl _ _ rfl rfl ?_) | (refine wpList_eql_stp rfl _ _ rfl _ _ _ _ rfl rfl _ rfl ?_))
      go_ret
      exact ⟨rfl, rfl⟩
    case inl => exact absurd rfl a
    all_goals
      clear a qa
      go_enter Try.func24, Try.ntmps24
      go_wp2_with (first | (refine wpList_build_stp rfl _ _ rfl _ _ rfl rfl ?_) | (refine wpList_eql_stp rfl _ _ rfl _ _ _ _ rfl rfl _ rfl ?_))
      go_ret
      exact ⟨rfl, rfl⟩
  by_cases d : p = 1
  · subst d
    rcases st_cases s with rfl | rfl | rfl | rfl | rfl | rfl | h
    case inr.inr.inr.inr.inr.inr =>
      have e : folV 1 s = false := by unfold folV; simp; omega
      rw [e]
      have q0 : (s == 0) = false := by simp; omega
      have q1 : (s == 1) = false := by simp; omega
      have q2 : (s == 2) = false := by simp; omega
      have q3 : (s == 3) = false := by simp; omega
      have q4 : (s == 4) = false := by simp; omega
      have q5 : (s == 5) = false := by simp; omega
      clear h e a qa b
      go_enter Try.func24, Try.ntmps24
      go_wp2_with (first | (refine wpList_build_stp rfl _ _ rfl _ _ rfl rfl ?_) | (refine wpList_eql_stp rfl _ _ rfl _ _ _ _ rfl rfl _ rfl ?_))
      go_ret
      exact ⟨rfl, rfl⟩
    case inr.inl => exact absurd rfl a
    all_goals
      clear a qa b
      go_enter Try.func24, Try.ntmps24
      go_wp2_with (first | (refine wpList_build_stp rfl _ _ rfl _ _ rfl rfl ?_) | (refine wpList_eql_stp rfl _ _ rfl _ _ _ _ rfl rfl _ rfl ?_))
      go_ret
      exact ⟨rfl, rfl⟩
  have e : folV p s = false := by unfold folV; simp; omega
  rw [e]
  have q1 : (p == 0) = false := by simp [b]
  have q2 : (p == 1) = false := by simp [d]
  clear a b d e
  go_enter Try.func24, Try.ntmps24
  go_wp2_with (first | (refine wpList_build_stp rfl _ _ rfl _ _ rfl rfl ?_) | (refine wpList_eql_stp rfl _ _ rfl _ _ _ _ rfl rfl _ rfl ?_))
  go_ret
  exact ⟨rfl, rfl⟩
end Go.Proofs.Ytmibohdppgijhaa
