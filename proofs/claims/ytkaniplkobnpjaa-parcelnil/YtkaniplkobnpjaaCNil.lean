/-
  ParcelNil's walk.
-/
import Derived.Test.YtkaniplkobnpjaaPclA
import Derived.Test.YtkaniplkobnpjaaPclD
namespace Go.Proofs.Ytkaniplkobnpjaa
open Go.ChangeShapes Go.WideShapes Go.ChangeAt Go.RowKit Go.Maps

set_option maxHeartbeats 1000000 in
theorem parcelNil_walk (c0 : Cl) (w : World) (w0 : c0.ok) :
    Calls Try.prog 4 #[.agg #[.int .i64 c0.id, .int .i64 c0.it, .int .i64 c0.q]] w fun e w' => e = .returned (.bool true) ∧ Below w.heap.size w w' := by
  obtain ⟨id, it, q⟩ := c0
  dsimp only
  clear w0
  have HI := hide pidsnil_any
  have HW := hide pwentnil_any
  have HA := hide pawake_any
  go_enter Try.func4, Try.ntmps4
  go_wp2_with (first
    | (go_at_call 10; refine (phasnil_any _ _).mono ?_; rintro e u ⟨rfl, rfl⟩)
    | (go_at_call 8; refine (pshipnil_any _ _ _ _).mono ?_; rintro e u ⟨rfl, rfl⟩)
    | (go_at_call 12; refine (HW.out _ _).mono ?_; rintro e u1 ⟨rfl, b1⟩; have HB1 := hide b1; clear b1)
    | (go_at_call 15; refine (HI.out _).mono ?_; rintro e u2 ⟨a2, c2, rfl, -, -, b2⟩; have HB2 := hide b2; clear b2)
    | (go_at_call 17; refine (HA.out _).mono ?_; rintro e u3 ⟨rfl, b3⟩; have HB3 := hide b3; clear b3))
  go_ret
  exact ⟨rfl, bel_on' (bel_on' (bel_on' (by first | exact Below.refl _ _ | exact bel_al (Below.refl _ _) _ | exact bel_al (bel_al (Below.refl _ _) _) _) HB1.out) HB2.out) HB3.out⟩
end Go.Proofs.Ytkaniplkobnpjaa
