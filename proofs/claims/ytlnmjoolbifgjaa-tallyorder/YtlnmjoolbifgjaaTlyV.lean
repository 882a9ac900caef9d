/-
  tally's Waits where it is decided.
-/
import Derived.Test.YtlnmjoolbifgjaaTlyA
namespace Go.Proofs.Ytlnmjoolbifgjaa
open Go.ChangeShapes Go.WideShapes Go.ChangeAt Go.RowKit

theorem twaits0_any {B : Nat} {w : World} {p : Nat} {t : Ta} (k : Tk B w p t) (h : t.d = true) :
    Calls Try.prog 16 #[.pointer (some ⟨p, 0, none⟩)] w fun e w' => e = .returned (.slice none 0 0) ∧ Below w.heap.size w w' := by
  obtain ⟨-, -, -, c67⟩ := k.1.cells
  rw [h] at c67
  clear k h
  go_enter Try.func16, Try.ntmps16
  go_wp2
  go_ret
  exact ⟨rfl, Below.refl _ _⟩
end Go.Proofs.Ytlnmjoolbifgjaa
