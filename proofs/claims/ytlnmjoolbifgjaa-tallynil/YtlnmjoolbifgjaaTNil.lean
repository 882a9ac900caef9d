/-
  TallyNil's walk.
-/
import Derived.Test.YtlnmjoolbifgjaaTlyA
import Derived.Test.YtlnmjoolbifgjaaTlyD
namespace Go.Proofs.Ytlnmjoolbifgjaa
open Go.ChangeShapes Go.WideShapes Go.ChangeAt Go.RowKit

theorem tallyNil_walk (c0 : Cl) (w : World) (_w0 : c0.ok) :
    Calls Try.prog 4 #[.agg #[.bool c0.cl, .int .i64 c0.i, .bool c0.yes]] w fun e w' => e = .returned (.bool true) ∧ Below w.heap.size w w' := by
  have HA := hide tawake_any
  have HB0 : Hid (Below w.heap.size w (w.alloc (.cells #[.bool c0.cl, .int .i64 c0.i, .bool c0.yes] 28))) := (Below.refl _ _).alloc (Nat.le_refl _) _
  clear _w0
  go_enter Try.func4, Try.ntmps4
  go_wp2_with (first
    | (go_at_call 9; refine (tclosenil_any _).mono ?_; rintro e u1 ⟨rfl, rfl⟩)
    | (go_at_call 13; refine (toutnil_any _).mono ?_; rintro e u2 ⟨rfl, rfl⟩)
    | (go_at_call 11; refine (tsaynil_any _ _ _).mono ?_; rintro e u3 ⟨rfl, rfl⟩)
    | (go_at_call 16; refine (twaitsnil_any _).mono ?_; rintro e u4 ⟨rfl, rfl⟩)
    | (go_at_call 18; refine (HA.out _).mono ?_; rintro e u5 ⟨rfl, b5⟩; have HB5 := hide b5; clear b5))
  go_ret
  exact ⟨rfl, bel_on' HB0.out HB5.out⟩
end Go.Proofs.Ytlnmjoolbifgjaa
