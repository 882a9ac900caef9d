/-
  Contract of the law's awake.
-/
import Derived.Test.YtlnmjoolbifgjaaTlyW
namespace Go.Proofs.Ytlnmjoolbifgjaa
open Go.ChangeShapes Go.WideShapes Go.ChangeAt Go.RowKit

theorem awake_one : (newT (cutN 2)).sayB 0 true = true ∧ ((newT (cutN 2)).said 0 true).sayB 1 true = true ∧ (((newT (cutN 2)).said 0 true).said 1 true).f = true ∧ (((newT (cutN 2)).said 0 true).said 1 true).d = true := by decide
theorem tawake_any (w : World) : Calls Try.prog 18 #[] w fun e w' => e = .returned (.bool true) ∧ Below w.heap.size w w' := by
  obtain ⟨e1, e2, e3, e4⟩ := awake_one
  have N1 := tnew_any 2 w
  have S1 : Hid (∀ (u : World) (p : Nat), Tk w.heap.size u p (newT (cutN 2)) → Calls Try.prog 11 #[.pointer (some ⟨p, 0, none⟩), .int .i64 0, .bool true] u fun e w' => e = .returned (.bool true) ∧ Tk w.heap.size w' p ((newT (cutN 2)).said 0 true) ∧ Rg.Kept (Own1 p) u w') := fun u p k => by
    have := tsay_any k 0 true
    rw [e1] at this
    exact this
  have S2 : Hid (∀ (u : World) (p : Nat), Tk w.heap.size u p ((newT (cutN 2)).said 0 true) → Calls Try.prog 11 #[.pointer (some ⟨p, 0, none⟩), .int .i64 1, .bool true] u fun e w' => e = .returned (.bool true) ∧ Tk w.heap.size w' p (((newT (cutN 2)).said 0 true).said 1 true) ∧ Rg.Kept (Own1 p) u w') := fun u p k => by
    have := tsay_any k 1 true
    rw [e2] at this
    exact this
  have S3 : Hid (∀ (u : World) (p : Nat), Tk w.heap.size u p (((newT (cutN 2)).said 0 true).said 1 true) → Calls Try.prog 13 #[.pointer (some ⟨p, 0, none⟩)] u fun e w' => e = .returned (.tuple #[.bool true, .bool true]) ∧ Below u.heap.size u w') := fun u p k => by
    have := tout_any k
    rw [e3, e4] at this
    exact this
  clear e1 e2 e3 e4
  generalize ((newT (cutN 2)).said 0 true).said 1 true = t2 at S2 S3
  generalize (newT (cutN 2)).said 0 true = t1 at S1 S2
  generalize newT (cutN 2) = t0 at N1 S1
  go_enter Try.func18, Try.ntmps18
  go_wp2_with (first
    | (go_at_call 7; refine N1.mono ?_; clear N1; rintro e u1 ⟨p, rfl, k1, b1⟩; have C1 := S1.out u1 p k1; have HK1 := hide k1; have HB1 := hide b1; clear k1 b1 S1)
    | (go_at_call 13; refine C3.mono ?_; rintro e u4 ⟨rfl, b4⟩; have HB4 := hide b4; clear b4)
    | (go_at_call 11; first
        | (refine C1.mono ?_; clear C1; rintro e u2 ⟨rfl, k2, o2⟩; have C2 := S2.out u2 p k2; have HB2 := hide (HB1.out.trans (HK1.out.bel o2)); have HK2 := hide k2; clear k2 o2 S2)
        | (refine C2.mono ?_; clear C2; rintro e u3 ⟨rfl, k3, o3⟩; have C3 := S3.out u3 p k3; have HB3 := hide (HB2.out.trans (HK2.out.bel o3)); clear k3 o3 S3)))
  go_ret
  exact ⟨rfl, bel_on' HB3.out HB4.out⟩
end Go.Proofs.Ytlnmjoolbifgjaa
