/-
  BellNil's walk.
-/
import Derived.Test.YtdjdlifacbmbcaaBelA
import Derived.Test.YtdjdlifacbmbcaaBelQ
namespace Go.Proofs.Ytdjdlifacbmbcaa
open Go.ChangeShapes Go.WideShapes Go.ChangeAt Go.RowKit Go.Maps

set_option maxHeartbeats 1000000 in
theorem bellNil_walk (a0 : Int) (w : World) (_w0 : (Lit.int .i64 a0).wf = true) :
    Calls Try.prog 4 #[.int .i64 a0] w fun e w' => e = .returned (.bool true) ∧ Below w.heap.size w w' := by
  have I : ∀ u, Calls Try.prog 19 #[.pointer none, .int .i64 3] u (OwnInts u ([] : List Int)) := fun u => blids_any none [] (by simp) u 3 (by omega) (fun U _ => bidsnil_any U)
  clear _w0
  have HI := hide I
  clear I
  go_enter Try.func4, Try.ntmps4
  go_wp2_with (first
    | (go_at_call 15; refine (bringnil_any _ _).mono ?_; rintro e u1 ⟨rfl, rfl⟩)
    | (go_at_call 9; refine (bhangnil_any _ _).mono ?_; rintro e u1 ⟨rfl, rfl⟩)
    | (go_at_call 11; refine (bcutnil_any _ _).mono ?_; rintro e u1 ⟨rfl, rfl⟩)
    | (go_at_call 13; refine (bagnnil_any _ _).mono ?_; rintro e u1 ⟨rfl, rfl⟩)
    | (go_at_call 19; refine (HI.out _).mono ?_; rintro e u2 ⟨a2, n2, rfl, -, -, b2⟩; have HB2 := hide b2; clear b2)
    | (go_at_call 20; refine (bawake_any _).mono ?_; rintro e u7 ⟨rfl, b7⟩; have HB7 := hide b7; clear b7))
  go_ret
  exact ⟨rfl, bel_on' HB2.out HB7.out⟩
end Go.Proofs.Ytdjdlifacbmbcaa
