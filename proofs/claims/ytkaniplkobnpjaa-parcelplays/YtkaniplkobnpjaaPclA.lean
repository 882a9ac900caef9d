/-
  Ship with the answer and the book behind it named; the law's awake.
-/
import Derived.Test.YtkaniplkobnpjaaPclQ
namespace Go.Proofs.Ytkaniplkobnpjaa
open Go.ChangeShapes Go.WideShapes Go.ChangeAt Go.RowKit Go.Maps

theorem ship_by {B : Nat} {E : Nat → Prop} {w : World} {p : Nat} {l l' : List (Int × Int × Int)} (k : Pc B E w p l) {id : Int} (hw : (Lit.int .i64 id).wf = true) {item qty a : Int} (hE : shipE l id item qty = a) (hL : shipL l id item qty = l') :
    Calls Try.prog 8 #[.pointer (some ⟨p, 0, none⟩), .int .i64 id, .int .i64 item, .int .i64 qty] w fun e w' => e = .returned (.int .i64 a) ∧ Pc B (growE E w w') w' p l' ∧ Rg.Kept (fun i _ => E i) w w' := by
  subst hE hL
  exact pship_any k hw item qty
theorem pawake_any (w : World) : Calls Try.prog 17 #[] w fun e w' => e = .returned (.bool true) ∧ Below w.heap.size w w' := by
  have h1 : (Lit.int .i64 1).wf = true := by decide
  have HN := hide (pnew_any w)
  have HA : Hid (∀ (E : Nat → Prop) (u : World) (p : Nat), Pc w.heap.size E u p [] → Calls Try.prog 8 #[.pointer (some ⟨p, 0, none⟩), .int .i64 1, .int .i64 0, .int .i64 2] u fun e w' => e = .returned (.int .i64 0) ∧ Pc w.heap.size (growE E u w') w' p [(1, 0, 2)] ∧ Rg.Kept (fun i _ => E i) u w') := fun E u p k => ship_by k h1 (by decide) (by decide)
  have HB : Hid (∀ (E : Nat → Prop) (u : World) (p : Nat), Pc w.heap.size E u p [(1, 0, 2)] → Calls Try.prog 8 #[.pointer (some ⟨p, 0, none⟩), .int .i64 1, .int .i64 0, .int .i64 2] u fun e w' => e = .returned (.int .i64 8) ∧ Pc w.heap.size (growE E u w') w' p [(1, 0, 2)] ∧ Rg.Kept (fun i _ => E i) u w') := fun E u p k => ship_by k h1 (by decide) (by decide)
  have HC : Hid (∀ (E : Nat → Prop) (u : World) (p : Nat), Pc w.heap.size E u p [(1, 0, 2)] → Calls Try.prog 12 #[.pointer (some ⟨p, 0, none⟩), .int .i64 0] u fun e w' => e = .returned (.int .i64 2) ∧ Below u.heap.size u w') := fun E u p k => by
    have := pwent_any k 0
    rwa [show wentP [(1, 0, 2)] 0 = 2 by decide] at this
  clear h1
  go_enter Try.func17, Try.ntmps17
  go_wp2_with (first
    | (go_at_call 7; refine HN.out.mono ?_; rintro e u1 ⟨p, rfl, -, k1, b1⟩; have HB1 := hide b1; have S1 := HA.out _ u1 p k1; have HK1 := hide k1; clear b1 k1 HN HA)
    | (go_at_call 8; refine S1.mono ?_; clear S1; rintro e u2 ⟨rfl, k2, o2⟩; have HB2 := hide (HB1.out.trans (HK1.out.bel o2)); have S2 := HB.out _ u2 p k2; have HK2 := hide k2; clear k2 o2 HB)
    | (go_at_call 8; refine S2.mono ?_; clear S2; rintro e u3 ⟨rfl, k3, o3⟩; have HB3 := hide (HB2.out.trans (HK2.out.bel o3)); have S3 := HC.out _ u3 p k3; clear k3 o3 HC)
    | (go_at_call 12; refine S3.mono ?_; clear S3; rintro e u4 ⟨rfl, b4⟩; have HB4 := hide (bel_on' HB3.out b4); clear b4))
  go_ret
  exact ⟨rfl, HB4.out⟩
end Go.Proofs.Ytkaniplkobnpjaa
