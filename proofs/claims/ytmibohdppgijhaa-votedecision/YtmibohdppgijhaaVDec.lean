/-
  VoteDecision's walk.
-/
import Derived.Test.YtmibohdppgijhaaVotA
namespace Go.Proofs.Ytmibohdppgijhaa
open Go.ChangeShapes Go.WideShapes Go.ChangeAt Go.RowKit

set_option maxHeartbeats 2000000 in
theorem voteDecision_walk (a0 a1 : Bool) (w : World) :
    Calls Try.prog 7 #[.bool a0, .bool a1] w fun e w' => e = .returned (.bool true) ∧ Below w.heap.size w w' := by
  cases a0 <;> cases a1
  all_goals
    go_enter Try.func7, Try.ntmps7
    go_wp2_with (first
    | (go_at_call 10; refine (vnext_any _ _ _ _).mono ?_; rintro e u ⟨rfl, rfl⟩)
    | (go_at_call 12; refine (vdec_any _ _).mono ?_; rintro e u ⟨rfl, rfl⟩)
    | (go_at_call 16; refine (vfin_any _ _).mono ?_; rintro e u ⟨rfl, rfl⟩)
    | (go_at_call 14; refine (vmay_any _ _).mono ?_; rintro e u ⟨rfl, rfl⟩)
    | (go_at_call 18; refine (vname_any _ _).mono ?_; rintro e u ⟨rfl, rfl⟩)
    | (go_at_call 9; refine (vawake_any _).mono ?_; rintro e u ⟨rfl, rfl⟩))
    go_ret
    exact ⟨rfl, Below.refl _ _⟩
end Go.Proofs.Ytmibohdppgijhaa
