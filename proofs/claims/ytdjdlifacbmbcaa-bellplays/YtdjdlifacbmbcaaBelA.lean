/-
  The same contracts, the tower's blocks behind a word; contract of wharfingerlaw18's awake.
-/
import Derived.Test.YtdjdlifacbmbcaaBelT
namespace Go.Proofs.Ytdjdlifacbmbcaa
open Go.ChangeShapes Go.WideShapes Go.ChangeAt Go.RowKit Go.Maps

/-- A tower made behind w0. -/
def To (w0 w : World) (p : Nat) (t : Int) (h : Int → Int) (n : Nat) : Prop := (∃ E, Bt w0.heap.size E w p t h n) ∧ Below w0.heap.size w0 w
section
variable {w0 w w' : World} {p : Nat} {t : Int} {h h' : Int → Int} {n : Nat}
theorem To.good (k : To w0 w p t h n) : GoodT t h := by obtain ⟨⟨E, k⟩, _⟩ := k; exact k.good
theorem To.on (k : To w0 w p t h n) (hb : Below w.heap.size w w') : To w0 w' p t h n := by obtain ⟨⟨E, k⟩, k2⟩ := k; exact ⟨⟨E, k.on hb⟩, bel_on' k2 hb⟩
theorem To.up (k : To w0 w p t h n) (hb : Below w.heap.size w w') : Below w0.heap.size w0 w' := bel_on' k.2 hb
theorem To.more {n' : Nat} (k : To w0 w p t h n) (hn : n ≤ n') : To w0 w p t h n' := by obtain ⟨⟨E, k⟩, k2⟩ := k; exact ⟨⟨E, k.more hn⟩, k2⟩
theorem bnew_on (hb : Below w0.heap.size w0 w) {r : Int} (ht : clampT r = t) :
    Calls Try.prog 7 #[.int .i64 r] w fun e w' => ∃ p, e = .returned (.pointer (some ⟨p, 0, none⟩)) ∧ To w0 w' p t (fun _ => 0) 0 := by
  subst ht
  refine (bnew_any r w).mono ?_
  rintro e w' ⟨p, rfl, -, ⟨h1, h2, h3⟩, hb2⟩
  exact ⟨p, rfl, ⟨_, fun k e => ⟨Nat.le_trans hb.size (h1 k e).1, (h1 k e).2⟩, h2, h3⟩, bel_on' hb hb2⟩
theorem bhang_on (k : To w0 w p t h n) {id : Int} (hw : (Lit.int .i64 id).wf = true) (hn : n < 1000000) {b : Bool} (hB : hangB h id = b) (hH : hangH t h id = h') :
    Calls Try.prog 9 #[.pointer (some ⟨p, 0, none⟩), .int .i64 id] w fun e w' => e = .returned (.bool b) ∧ To w0 w' p t h' (n + 1) := by
  subst hB hH
  obtain ⟨⟨E, k⟩, k2⟩ := k
  exact (bhang_any k hw hn).mono (fun _ w' ⟨h1, h2, h3⟩ => ⟨h1, ⟨_, h2⟩, k2.trans (k.bel h3)⟩)
theorem bcut_on (k : To w0 w p t h n) {id : Int} (hw : (Lit.int .i64 id).wf = true) {b : Bool} (hB : hasB h id = b) (hH : cutH h id = h') :
    Calls Try.prog 11 #[.pointer (some ⟨p, 0, none⟩), .int .i64 id] w fun e w' => e = .returned (.bool b) ∧ To w0 w' p t h' (n + 1) := by
  subst hB hH
  obtain ⟨⟨E, k⟩, k2⟩ := k
  exact (bcut_any k hw).mono (fun _ w' ⟨h1, h2, h3⟩ => ⟨h1, ⟨_, h2⟩, k2.trans (k.bel h3)⟩)
theorem bagn_on (k : To w0 w p t h n) {id : Int} (hw : (Lit.int .i64 id).wf = true) (hn : n < 1000000) {b : Bool} (hB : hasB h id = b) (hH : agnH t h id = h') :
    Calls Try.prog 13 #[.pointer (some ⟨p, 0, none⟩), .int .i64 id] w fun e w' => e = .returned (.bool b) ∧ To w0 w' p t h' (n + 1) := by
  subst hB hH
  obtain ⟨⟨E, k⟩, k2⟩ := k
  exact (bagn_any k hw hn).mono (fun _ w' ⟨h1, h2, h3⟩ => ⟨h1, ⟨_, h2⟩, k2.trans (k.bel h3)⟩)
theorem bring_on (k : To w0 w p t h n) {id : Int} (hw : (Lit.int .i64 id).wf = true) (hn : n < 1000000) {b c : Bool} (hB : hasB h id = b) (hC : oftB h id = c) (hH : ringH h id = h') :
    Calls Try.prog 15 #[.pointer (some ⟨p, 0, none⟩), .int .i64 id] w fun e w' => e = .returned (.tuple #[.bool b, .bool c]) ∧ To w0 w' p t h' (n + 1) := by
  subst hB hC hH
  obtain ⟨⟨E, k⟩, k2⟩ := k
  exact (bring_any k hw hn).mono (fun _ w' ⟨h1, h2, h3⟩ => ⟨h1, ⟨_, h2⟩, k2.trans (k.bel h3)⟩)
end

set_option maxHeartbeats 1000000 in
theorem bawake_any (w : World) : Calls Try.prog 20 #[] w fun e w' => e = .returned (.bool true) ∧ Below w.heap.size w w' := by
  have N0 := bnew_on (Below.refl _ w) (r := 1) (t := 1) (by decide)
  have t1 : Hid (∀ p u, To w u p 1 (fun _ => 0) 0 → Calls Try.prog 9 #[.pointer (some ⟨p, 0, none⟩), .int .i64 5] u fun e w' => e = .returned (.bool true) ∧ To w w' p 1 (upd (fun _ => 0) 5 2) (0 + 1)) := fun p u k => bhang_on k (by decide) (by omega) (by decide) rfl
  have t2 : Hid (∀ p u, To w u p 1 (upd (fun _ => 0) 5 2) (0 + 1) → Calls Try.prog 15 #[.pointer (some ⟨p, 0, none⟩), .int .i64 5] u fun e w' => e = .returned (.tuple #[.bool true, .bool false]) ∧ To w w' p 1 (upd (upd (fun _ => 0) 5 2) 5 1) (0 + 1 + 1)) := fun p u k => bring_on k (by decide) (by omega) (by decide) (by decide) rfl
  have t3 : Hid (∀ p u, To w u p 1 (upd (upd (fun _ => 0) 5 2) 5 1) (0 + 1 + 1) → Calls Try.prog 15 #[.pointer (some ⟨p, 0, none⟩), .int .i64 5] u fun e w' => e = .returned (.tuple #[.bool true, .bool true]) ∧ To w w' p 1 (upd (upd (fun _ => 0) 5 2) 5 1) (0 + 1 + 1 + 1)) := fun p u k => bring_on k (by decide) (by omega) (by decide) (by decide) rfl
  have t4 : Hid (∀ p u, To w u p 1 (upd (upd (fun _ => 0) 5 2) 5 1) (0 + 1 + 1 + 1) → Calls Try.prog 9 #[.pointer (some ⟨p, 0, none⟩), .int .i64 5] u fun e w' => e = .returned (.bool false) ∧ Below w.heap.size w w') := fun p u k => (bhang_on k (by decide) (by omega) (by decide) rfl).mono (fun _ _ ⟨h1, h2⟩ => ⟨h1, h2.2⟩)
  go_enter Try.func20, Try.ntmps20
  go_wp2_with (first
    | (go_at_call 7; refine N0.mono ?_; rintro e w1 ⟨p, rfl, k1⟩; have T1 := t1.out p w1 k1; clear t1 N0 k1)
    | (go_at_call 9; refine T1.mono ?_; rintro e w2 ⟨rfl, k2⟩; have T2 := t2.out p w2 k2; clear t2 T1 k2)
    | (go_at_call 15; refine T2.mono ?_; rintro e w3 ⟨rfl, k3⟩; have T3 := t3.out p w3 k3; clear t3 T2 k3)
    | (go_at_call 15; refine T3.mono ?_; rintro e w4 ⟨rfl, k4⟩; have T4 := t4.out p w4 k4; clear t4 T3 k4)
    | (go_at_call 9; refine T4.mono ?_; rintro e w5 ⟨rfl, b5⟩; clear T4))
  go_ret
  exact ⟨rfl, b5⟩
end Go.Proofs.Ytdjdlifacbmbcaa
