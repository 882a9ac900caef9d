/-
  Try and Pass with what is told named; the law's awake.
-/
import Derived.Test.YtpllbggkbhhfkaaAgnS
namespace Go.Proofs.Ytpllbggkbhhfkaa
open Go.ChangeShapes Go.WideShapes Go.ChangeAt Go.RowKit

theorem try_on {B : Nat} {w0 w : World} {p : Nat} {l x y l' x' y' : Int} {b : Bool} (k : Ct 36 B w p l x y) (hb : Below B w0 w) (g : GoodC l x y) (h1 : tryB l x = b) (h2 : tryL l x = l') (h3 : tryX l x y = x') (h4 : tryY l x y = y') :
    Calls Try.prog 9 #[.pointer (some ⟨p, 0, none⟩)] w fun e w' => e = .returned (.bool b) ∧ Ct 36 B w' p l' x' y' ∧ Below B w0 w' := by
  subst h1 h2 h3 h4
  exact (ctry_any k g).mono fun e w' ⟨h1, h2, h3⟩ => ⟨h1, h2, hb.trans (k.bel h3)⟩
theorem pass_on {B : Nat} {w0 w : World} {p : Nat} {l x y x' : Int} {b : Bool} (k : Ct 36 B w p l x y) (hb : Below B w0 w) (g : GoodC l x y) (h1 : decide (passX x = 0) = b) (h3 : passX x = x') :
    Calls Try.prog 11 #[.pointer (some ⟨p, 0, none⟩)] w fun e w' => e = .returned (.bool b) ∧ Ct 36 B w' p l x' y ∧ Below B w0 w' := by
  subst h1 h3
  exact (cpass_any k g).mono fun e w' ⟨h1, h2, h3⟩ => ⟨h1, h2, hb.trans (k.bel h3)⟩
theorem good_of {l x y : Int} (h : 0 ≤ l ∧ l ≤ 20 ∧ 0 ≤ x ∧ x ≤ 16 ∧ 0 ≤ y ∧ y ≤ 16) : GoodC l x y := ⟨h.1, h.2.1, h.2.2.1, h.2.2.2.1, h.2.2.2.2.1, h.2.2.2.2.2⟩

theorem cawake_any (w : World) : Calls Try.prog 15 #[] w fun e w' => e = .returned (.bool true) ∧ Below w.heap.size w w' := by
  have HN := hide (cnew_any 2 w)
  have S1 := hide (fun (u : World) p (k : Ct 36 w.heap.size u p 2 0 0) (b : Below w.heap.size w u) => try_on (b := true) (l' := 1) (x' := 1) (y' := 1) k b (good_of (by decide)) (by decide) (by decide) (by decide) (by decide))
  have S2 := hide (fun (u : World) p (k : Ct 36 w.heap.size u p 1 1 1) (b : Below w.heap.size w u) => try_on (b := false) (l' := 1) (x' := 1) (y' := 1) k b (good_of (by decide)) (by decide) (by decide) (by decide) (by decide))
  have S3 := hide (fun (u : World) p (k : Ct 36 w.heap.size u p 1 1 1) (b : Below w.heap.size w u) => pass_on (b := true) (x' := 0) k b (good_of (by decide)) (by decide) (by decide))
  have S4 := hide (fun (u : World) p (k : Ct 36 w.heap.size u p 1 0 1) (b : Below w.heap.size w u) => try_on (b := true) (l' := 0) (x' := 2) (y' := 2) k b (good_of (by decide)) (by decide) (by decide) (by decide) (by decide))
  go_enter Try.func15, Try.ntmps15
  go_wp2_with (first
    | (go_at_call 7; refine HN.out.mono ?_; rintro e u1 ⟨p, rfl, k1, b1⟩; have C1 := S1.out u1 p k1 b1; clear k1 b1 HN S1)
    | (go_at_call 9; refine C1.mono ?_; clear C1; rintro e u2 ⟨rfl, k2, b2⟩; have C2 := S2.out u2 p k2 b2; clear k2 b2 S2)
    | (go_at_call 9; refine C2.mono ?_; clear C2; rintro e u3 ⟨rfl, k3, b3⟩; have C3 := S3.out u3 p k3 b3; clear k3 b3 S3)
    | (go_at_call 11; refine C3.mono ?_; clear C3; rintro e u4 ⟨rfl, k4, b4⟩; have C4 := S4.out u4 p k4 b4; clear k4 b4 S4)
    | (go_at_call 9; refine C4.mono ?_; clear C4; rintro e u5 ⟨rfl, k5, b5⟩; have CL := cleft_any k5; have CW := cwait_any k5; have HB := hide b5; clear k5 b5)
    | (go_at_call 14; refine CL.mono ?_; clear CL; rintro e u6 ⟨rfl, rfl⟩)
    | (go_at_call 13; refine CW.mono ?_; clear CW; rintro e u7 ⟨rfl, rfl⟩))
  go_ret
  exact ⟨rfl, HB.out⟩
end Go.Proofs.Ytpllbggkbhhfkaa
