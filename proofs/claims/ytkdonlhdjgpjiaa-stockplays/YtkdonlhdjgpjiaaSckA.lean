/-
  Contract of wharfingerlaw8's awake.
-/
import Derived.Test.YtkdonlhdjgpjiaaSckN
import Derived.Test.YtkdonlhdjgpjiaaStrs
namespace Go.Proofs.Ytkdonlhdjgpjiaa
open Go.ChangeShapes Go.WideShapes Go.ChangeAt Go.RowKit Go.Maps

section
variable {w0 w : World} {p b : Nat} {s s' : Sb} {n : Nat} {id E : Int}
theorem res_on (k : Sk w0.heap.size w p b s n) (hb : Below w0.heap.size w0 w) (hw : (Lit.int .i64 id).wf = true) {it q : Int} (hn : n < 1000000) (hE : resE s id it q = E) (hS : resS s id it q = s') :
    Calls Try.prog 16 #[.pointer (some ⟨p, 0, none⟩), .int .i64 id, .int .i64 it, .int .i64 q] w fun e w' => e = .returned (.int .i64 E) ∧ Sk w0.heap.size w' p b s' (n + 1) ∧ Below w0.heap.size w0 w' := by
  subst hE hS
  exact (res_any k hw it q hn).mono (fun _ w' ⟨h1, h2, h3⟩ => ⟨h1, h2, hb.trans (k.bel h3)⟩)
theorem com_on (k : Sk w0.heap.size w p b s n) (hb : Below w0.heap.size w0 w) (hw : (Lit.int .i64 id).wf = true) (hE : unE s id = E) (hS : comS s id = s') :
    Calls Try.prog 12 #[.pointer (some ⟨p, 0, none⟩), .int .i64 id] w fun e w' => e = .returned (.int .i64 E) ∧ Sk w0.heap.size w' p b s' n ∧ Below w0.heap.size w0 w' := by
  subst hE hS
  exact (com_any k hw).mono (fun _ w' ⟨h1, h2, h3⟩ => ⟨h1, h2, hb.trans (k.bel h3)⟩)
theorem rel_on (k : Sk w0.heap.size w p b s n) (hb : Below w0.heap.size w0 w) (hw : (Lit.int .i64 id).wf = true) (hE : unE s id = E) (hS : relS s id = s') :
    Calls Try.prog 14 #[.pointer (some ⟨p, 0, none⟩), .int .i64 id] w fun e w' => e = .returned (.int .i64 E) ∧ Sk w0.heap.size w' p b s' n ∧ Below w0.heap.size w0 w' := by
  subst hE hS
  exact (rel_any k hw).mono (fun _ w' ⟨h1, h2, h3⟩ => ⟨h1, h2, hb.trans (k.bel h3)⟩)
theorem fr_on (k : Sk w0.heap.size w p b s n) {x v : Int} (hv : frV s x = v) : Calls Try.prog 20 #[.pointer (some ⟨p, 0, none⟩), .int .i64 x] w fun e w' => e = .returned (.int .i64 v) ∧ w = w' := by
  subst hv; exact free_any k x
theorem on_on (k : Sk w0.heap.size w p b s n) {x v : Int} (hv : onV s x = v) : Calls Try.prog 19 #[.pointer (some ⟨p, 0, none⟩), .int .i64 x] w fun e w' => e = .returned (.int .i64 v) ∧ w = w' := by
  subst hv; exact onhand_any k x
end
/-- A book of a row that was just made: its numbers l. -/
theorem snew_on (w0 w : World) (l : List Int) (hb : Below w0.heap.size w0 w) (b : Nat) (ha : Ints w (some ⟨b, 0, none⟩) l) (hl : l.length ≤ 1000) :
    Calls Try.prog 10 #[.slice (some ⟨b, 0, none⟩) l.length l.length] w fun e w' => ∃ p b, e = .returned (.pointer (some ⟨p, 0, none⟩)) ∧ Sk w0.heap.size w' p b (newS l) 0 ∧ Below w0.heap.size w0 w' :=
  (snew_any _ l _ w ha (Nat.le_refl _) (by omega) (fun e => by cases e)).mono (fun _ w' ⟨p, b, h1, ⟨⟨h2, h3, h4, h5⟩, h6⟩, h7⟩ => ⟨p, b, h1, ⟨⟨h2, Nat.le_trans hb.size h3, Nat.le_trans hb.size h4, h5⟩, h6⟩, bel_on' hb h7⟩)

set_option maxHeartbeats 1000000 in
theorem sawake_any (w : World) : Calls Try.prog 9 #[] w fun e w' => e = .returned (.bool true) ∧ Below w.heap.size w w' := by
  have HN := hide (snew_on w (w.alloc (.cells #[.int .i64 5] 3)) [5] (bel_al (Below.refl _ _) _) w.heap.size (ints_one w 5) (by simp))
  go_enter Try.func9, Try.ntmps9
  go_wp2_with fail
  refine HN.out.mono ?_
  rintro e w1 ⟨p, b, rfl, k1, hb1⟩
  have t1 := res_on k1 hb1 (id := 1) (it := 0) (q := 2) (by decide) (by omega) (E := 0) (by decide) rfl
  have HT2 : Hid (∀ u, Sk w.heap.size u p b (resS (newS [5]) 1 0 2) 1 → Below w.heap.size w u → Calls Try.prog 12 #[.pointer (some ⟨p, 0, none⟩), .int .i64 1] u fun e w' => e = .returned (.int .i64 0) ∧ Sk w.heap.size w' p b (comS (resS (newS [5]) 1 0 2) 1) 1 ∧ Below w.heap.size w w') := fun u k hb => com_on k hb (by decide) (by decide) rfl
  have HF : Hid (∀ u, Sk w.heap.size u p b (resS (newS [5]) 1 0 2) 1 → Calls Try.prog 20 #[.pointer (some ⟨p, 0, none⟩), .int .i64 0] u fun e w' => e = .returned (.int .i64 3) ∧ u = w') := fun u k => fr_on k (by decide)
  have HF2 : Hid (∀ u, Sk w.heap.size u p b (comS (resS (newS [5]) 1 0 2) 1) 1 → (Calls Try.prog 20 #[.pointer (some ⟨p, 0, none⟩), .int .i64 0] u fun e w' => e = .returned (.int .i64 3) ∧ u = w') ∧ (Calls Try.prog 19 #[.pointer (some ⟨p, 0, none⟩), .int .i64 0] u fun e w' => e = .returned (.int .i64 3) ∧ u = w')) := fun u k => ⟨fr_on k (by decide), on_on k (by decide)⟩
  obtain ⟨s2, hs2⟩ : ∃ s2, resS (newS [5]) 1 0 2 = s2 := ⟨_, rfl⟩
  rw [hs2] at t1 HT2 HF HF2
  obtain ⟨s3, hs3⟩ : ∃ s3, comS s2 1 = s3 := ⟨_, rfl⟩
  rw [hs3] at HT2 HF2
  clear k1 hb1 hs2 hs3 HN
  go_wp2_with (first
    | (go_at_call 16; refine t1.mono ?_; rintro e w2 ⟨rfl, k2, b2⟩; clear t1; have T2 := HT2.out w2 k2 b2; have F2 := HF.out w2 k2; clear k2 b2)
    | (go_at_call 20; refine F2.mono ?_; rintro e u ⟨rfl, rfl⟩; clear F2)
    | (go_at_call 12; refine T2.mono ?_; rintro e w3 ⟨rfl, k3, b3⟩; clear T2; obtain ⟨F3, O3⟩ := HF2.out w3 k3; clear k3)
    | (go_at_call 19; refine O3.mono ?_; rintro e u ⟨rfl, rfl⟩; clear O3)
    | (go_at_call 20; refine F3.mono ?_; rintro e u ⟨rfl, rfl⟩; clear F3))
  go_ret
  exact ⟨rfl, b3⟩
end Go.Proofs.Ytkdonlhdjgpjiaa
