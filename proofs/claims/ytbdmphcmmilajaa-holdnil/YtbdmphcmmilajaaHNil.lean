/-
  HoldNil's walk.
-/
import Derived.Test.YtbdmphcmmilajaaHldA
import Derived.Test.YtbdmphcmmilajaaHldD
import Derived.Test.YtbdmphcmmilajaaHldQ
namespace Go.Proofs.Ytbdmphcmmilajaa
open Go.ChangeShapes Go.WideShapes Go.ChangeAt Go.RowKit Go.Maps

set_option maxHeartbeats 1000000 in
theorem holdNil_walk (c0 : Cl) (w : World) (_w0 : c0.ok) :
    Calls Try.prog 4 #[.agg #[.bool c0.bk, .int .i64 c0.id, .int .i64 c0.n]] w fun e w' => e = .returned (.bool true) ∧ Below w.heap.size w w' := by
  have I : ∀ u, Calls Try.prog 19 #[.pointer none, .int .i64 3] u (OwnInts u ([] : List Int)) := fun u => lids_any none [] (by simp) u 3 (by omega) (fun U _ => idsnil_any U)
  obtain ⟨bk, id, n⟩ := c0
  clear _w0
  have HI := hide I
  clear I
  dsimp only
  go_enter Try.func4, Try.ntmps4
  go_wp2_with (first
    | (go_at_call 14; refine (hasnil_any _ _).mono ?_; rintro e u1 ⟨rfl, rfl⟩)
    | (go_at_call 12; refine (takenil_any _ _ _).mono ?_; rintro e u1 ⟨rfl, rfl⟩)
    | (go_at_call 10; refine (backnil_any _ _).mono ?_; rintro e u1 ⟨rfl, rfl⟩)
    | (go_at_call 17; refine (leftnil_any _).mono ?_; rintro e u1 ⟨rfl, rfl⟩)
    | (go_at_call 19; refine (HI.out _).mono ?_; rintro e u2 ⟨a2, n2, rfl, -, -, b2⟩; have HB2 := hide b2; clear b2)
    | (go_at_call 20; refine (hawake_any _).mono ?_; rintro e u7 ⟨rfl, b7⟩; have HB7 := hide b7; clear b7))
  go_ret
  exact ⟨rfl, bel_on' ((Below.refl _ w).alloc (Nat.le_refl _) _) (bel_on' HB2.out HB7.out)⟩
end Go.Proofs.Ytbdmphcmmilajaa
