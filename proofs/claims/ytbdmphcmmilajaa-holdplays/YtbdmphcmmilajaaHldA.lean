/-
  Contract of wharfingerlaw7's awake.
-/
import Derived.Test.YtbdmphcmmilajaaHldT
namespace Go.Proofs.Ytbdmphcmmilajaa
open Go.ChangeShapes Go.WideShapes Go.ChangeAt Go.RowKit Go.Maps

theorem take_on {w0 w : World} {p b : Nat} {left : Int} {h : Int → Int} {n : Nat} (k : Bk w0.heap.size w p b left h n) (hb : Below w0.heap.size w0 w) {id x : Int} (hw : (Lit.int .i64 id).wf = true) (hn : n < 1000000) {E L' : Int} {H' : Int → Int} (hE : takeE left h id x = E) (hL : takeL left h id x = L') (hH : takeH left h id x = H') :
    Calls Try.prog 12 #[.pointer (some ⟨p, 0, none⟩), .int .i64 id, .int .i64 x] w fun e w' => e = .returned (.int .i64 E) ∧ Bk w0.heap.size w' p b L' H' (n + 1) ∧ Below w0.heap.size w0 w' := by
  subst hE hL hH
  exact (take_any k hw hn).mono (fun _ w' ⟨h1, h2, h3⟩ => ⟨h1, h2, hb.trans (k.bel h3)⟩)
theorem back_on {w0 w : World} {p b : Nat} {left : Int} {h : Int → Int} {n : Nat} (k : Bk w0.heap.size w p b left h n) (hb : Below w0.heap.size w0 w) {id : Int} (hw : (Lit.int .i64 id).wf = true) {E L' : Int} {H' : Int → Int} (hE : backE h id = E) (hL : backL left h id = L') (hH : backH h id = H') :
    Calls Try.prog 10 #[.pointer (some ⟨p, 0, none⟩), .int .i64 id] w fun e w' => e = .returned (.int .i64 E) ∧ Bk w0.heap.size w' p b L' H' n ∧ Below w0.heap.size w0 w' := by
  subst hE hL hH
  exact (back_any k hw).mono (fun _ w' ⟨h1, h2, h3⟩ => ⟨h1, h2, hb.trans (k.bel h3)⟩)

set_option maxHeartbeats 1000000 in
theorem hawake_any (w : World) : Calls Try.prog 20 #[] w fun e w' => e = .returned (.bool true) ∧ Below w.heap.size w w' := by
  go_enter Try.func20, Try.ntmps20
  go_wp2_with fail
  refine (new_any 5 w).mono ?_
  rintro e w1 ⟨p, b, rfl, k1, hb1⟩
  rw [show clampA 5 = 5 by decide] at k1
  have HB := hide hb1
  clear hb1
  have t1 : Calls Try.prog 12 #[.pointer (some ⟨p, 0, none⟩), .int .i64 1, .int .i64 3] w1 fun e w' => e = .returned (.int .i64 0) ∧ Below w.heap.size w w' ∧ Bk w.heap.size w' p b 2 (upd (fun _ => 0) 1 3) 1 := (take_any k1 (id := 1) (x := 3) (by decide) (by omega)).mono (fun _ w' ⟨h1, h2, h3⟩ => ⟨h1, HB.out.trans (k1.bel h3), h2⟩)
  have t2 : ∀ u, Bk w.heap.size u p b 2 (upd (fun _ => 0) 1 3) 1 → Below w.heap.size w u → Calls Try.prog 12 #[.pointer (some ⟨p, 0, none⟩), .int .i64 2, .int .i64 3] u fun e w' => e = .returned (.int .i64 9) ∧ Below w.heap.size w w' ∧ Bk w.heap.size w' p b 2 (upd (fun _ => 0) 1 3) 2 := fun u k hb => (take_any k (id := 2) (x := 3) (by decide) (by omega)).mono (fun _ w' ⟨h1, h2, h3⟩ => ⟨h1, hb.trans (k.bel h3), h2⟩)
  have t3 : ∀ u, Bk w.heap.size u p b 2 (upd (fun _ => 0) 1 3) 2 → Below w.heap.size w u → Calls Try.prog 10 #[.pointer (some ⟨p, 0, none⟩), .int .i64 1] u fun e w' => e = .returned (.int .i64 0) ∧ Below w.heap.size w w' ∧ Bk w.heap.size w' p b 5 (backH (upd (fun _ => 0) 1 3) 1) 2 := fun u k hb => (back_any k (id := 1) (by decide)).mono (fun _ w' ⟨h1, h2, h3⟩ => ⟨h1, hb.trans (k.bel h3), h2⟩)
  clear k1
  go_wp2_with (first
    | (go_at_call 12; refine t1.mono ?_; rintro e w2 ⟨rfl, b2, k2⟩; clear t1; have T2 := t2 w2 k2 b2; clear t2 k2 b2)
    | (go_at_call 12; refine T2.mono ?_; rintro e w3 ⟨rfl, b3, k3⟩; clear T2; have L3 := left_any k3; have T3 := t3 w3 k3 b3; clear t3 k3 b3)
    | (go_at_call 17; refine L3.mono ?_; rintro e u ⟨rfl, rfl⟩; clear L3)
    | (go_at_call 10; refine T3.mono ?_; rintro e w4 ⟨rfl, b4, k4⟩; clear T3; have L4 := left_any k4)
    | (go_at_call 17; refine L4.mono ?_; rintro e u ⟨rfl, rfl⟩; clear L4))
  go_ret
  exact ⟨rfl, b4⟩
end Go.Proofs.Ytbdmphcmmilajaa
