/-
  VoteTwice's walk.
-/
import Derived.Test.YtmibohdppgijhaaVotA
namespace Go.Proofs.Ytmibohdppgijhaa
open Go.ChangeShapes Go.WideShapes Go.ChangeAt Go.RowKit

set_option maxHeartbeats 2000000 in
theorem voteTwice_walk (a0 a1 : Int) (a2 a3 : Bool) (w : World) (_w0 : (Lit.int .i64 a0).wf = true) (_w1 : (Lit.int .i64 a1).wf = true) :
    Calls Try.prog 6 #[.int .i64 a0, .int .i64 a1, .bool a2, .bool a3] w fun e w' => e = .returned (.bool true) ∧ Below w.heap.size w w' := by
  have C1 := hide (vnext_any a0 a1 a2 w)
  have C2 := hide (vnext_any (nxS a0 (mnt a1) a2) a1 a3 w)
  rw [nx_twice.1, nx_twice.2] at C2
  obtain ⟨x, hx⟩ : ∃ x, nxS a0 (mnt a1) a2 = x := ⟨_, rfl⟩
  obtain ⟨y, hy⟩ : ∃ y, nxK a0 (mnt a1) a2 = y := ⟨_, rfl⟩
  rw [hx, hy] at C1 C2
  have q1 : (x == x) = true := by simp
  have q2 : (y == y) = true := by simp
  clear hx hy _w0 _w1
  go_enter Try.func6, Try.ntmps6
  go_wp2_with (first
    | (go_at_call 10; refine C1.out.mono ?_; clear C1; rintro e u ⟨rfl, rfl⟩)
    | (go_at_call 10; refine C2.out.mono ?_; clear C2; rintro e u ⟨rfl, rfl⟩)
    | (go_at_call 10; refine (vnext_any _ _ _ _).mono ?_; rintro e u ⟨rfl, rfl⟩)
    | (go_at_call 12; refine (vdec_any _ _).mono ?_; rintro e u ⟨rfl, rfl⟩)
    | (go_at_call 16; refine (vfin_any _ _).mono ?_; rintro e u ⟨rfl, rfl⟩)
    | (go_at_call 14; refine (vmay_any _ _).mono ?_; rintro e u ⟨rfl, rfl⟩)
    | (go_at_call 18; refine (vname_any _ _).mono ?_; rintro e u ⟨rfl, rfl⟩)
    | (go_at_call 9; refine (vawake_any _).mono ?_; rintro e u ⟨rfl, rfl⟩))
  go_ret
  exact ⟨rfl, Below.refl _ _⟩
end Go.Proofs.Ytmibohdppgijhaa
