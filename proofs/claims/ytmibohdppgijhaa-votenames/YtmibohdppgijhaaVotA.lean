/-
  The law's awake.
-/
import Derived.Test.YtmibohdppgijhaaVotN
namespace Go.Proofs.Ytmibohdppgijhaa
open Go.ChangeShapes Go.WideShapes Go.ChangeAt Go.RowKit

theorem vawake_any (w : World) : Calls Try.prog 9 #[] w fun e w' => e = .returned (.bool true) ∧ w = w' := by
  have hq : ((nmV 1).toList == [114, 101, 97, 100, 121]) = true := by rw [ByteArray.toList_eq]; decide
  go_enter Try.func9, Try.ntmps9
  go_wp2_with (first
    | (go_at_call 10; refine (vnext_any _ _ _ _).mono ?_; rintro e u ⟨rfl, rfl⟩)
    | (go_at_call 16; refine (vfin_any _ _).mono ?_; rintro e u ⟨rfl, rfl⟩)
    | (go_at_call 18; refine (vname_any _ _).mono ?_; rintro e u ⟨rfl, rfl⟩))
  go_ret
  exact ⟨rfl, rfl⟩
end Go.Proofs.Ytmibohdppgijhaa
