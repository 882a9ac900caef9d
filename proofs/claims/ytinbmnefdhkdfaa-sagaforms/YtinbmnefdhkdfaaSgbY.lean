/-
  Plain: the reference's state and what is over are ours.
-/
import Derived.Test.YtinbmnefdhkdfaaSgbV
import Derived.Test.YtinbmnefdhkdfaaSgbH
namespace Go.Proofs.Ytinbmnefdhkdfaa

theorem ov_ref (o : Od) (f : Fa) : ovR o f = overF o f := by
  unfold ovR overF stF
  rw [may_ref, show mayF o { f with acc := true } = mayF o f from rfl]
  cases hm : mayF o f
  · rfl
  · obtain ⟨-, -, -, h4, -⟩ := mayF_parts hm
    obtain ⟨dn, un, asked, yes, turned, k0, k1, ship, g0, g1, acc⟩ := f
    clear hm
    unfold decF at h4
    dsimp only at h4 ⊢
    generalize allB un = U
    revert h4
    cases yes <;> cases turned <;> cases k0 <;> cases k1 <;> cases ship <;> cases U <;> cases g0 <;> cases g1 <;> cases asked <;> simp [allB, hasB]
theorem st_ref (o : Od) (f : Fa) : stR o f = stF o f := by
  unfold stR ovR stF
  rw [may_ref]
  cases hm : mayF o f
  · rfl
  · obtain ⟨-, -, -, h4, -⟩ := mayF_parts hm
    obtain ⟨dn, un, asked, yes, turned, k0, k1, ship, g0, g1, acc⟩ := f
    clear hm
    unfold decF at h4
    dsimp only at h4 ⊢
    have e : (!(!hasB [g0, g1] true) && !acc) = ((g0 || g1) && !acc) := by cases g0 <;> cases g1 <;> cases acc <;> rfl
    rw [e]
    clear e
    generalize ((g0 || g1) && !acc) = X
    generalize allB un = U
    cases X
    · revert h4
      cases yes <;> cases turned <;> cases k0 <;> cases k1 <;> cases ship <;> cases U <;> simp [allB, hasB]
    · rfl
end Go.Proofs.Ytinbmnefdhkdfaa
