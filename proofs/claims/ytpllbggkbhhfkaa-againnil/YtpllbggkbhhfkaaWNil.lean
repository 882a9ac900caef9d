/-
  AgainNil's walk.
-/
import Derived.Test.YtpllbggkbhhfkaaAgnA
namespace Go.Proofs.Ytpllbggkbhhfkaa
open Go.ChangeShapes Go.WideShapes Go.ChangeAt Go.RowKit

set_option maxHeartbeats 1000000 in
theorem againNil_walk (a0 : Int) (w : World) (_w0 : (Lit.int .i64 a0).wf = true) :
    Calls Try.prog 4 #[.int .i64 a0] w fun e w' => e = .returned (.bool true) ∧ Below w.heap.size w w' := by
  have HN := hide (fun u => cnew_any a0 u)
  have HA := hide cawake_any
  clear _w0
  go_enter Try.func4, Try.ntmps4
  go_wp2_with (first
    | (go_at_call 9; refine (ctrynil_any _).mono ?_; rintro e u ⟨rfl, rfl⟩)
    | (go_at_call 11; refine (cpassnil_any _).mono ?_; rintro e u ⟨rfl, rfl⟩)
    | (go_at_call 13; refine (cwaitnil_any _).mono ?_; rintro e u ⟨rfl, rfl⟩)
    | (go_at_call 14; refine (cleftnil_any _).mono ?_; rintro e u ⟨rfl, rfl⟩)
    | (go_at_call 7; refine (HN.out _).mono ?_; rintro e u1 ⟨p, rfl, -, b1⟩; have HB1 := hide b1; clear b1)
    | (go_at_call 15; refine (HA.out _).mono ?_; rintro e u3 ⟨rfl, b3⟩; have HB3 := hide b3; clear b3))
  go_ret
  exact ⟨rfl, bel_on' HB1.out HB3.out⟩
end Go.Proofs.Ytpllbggkbhhfkaa
