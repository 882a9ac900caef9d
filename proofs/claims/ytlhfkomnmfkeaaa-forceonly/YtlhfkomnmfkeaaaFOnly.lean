/-
  ForceOnly's walk.
-/
import Derived.Test.YtlhfkomnmfkeaaaFrcA
import Derived.Test.YtlhfkomnmfkeaaaFrcR
namespace Go.Proofs.Ytlhfkomnmfkeaaa
open Go.ChangeShapes Go.WideShapes Go.ChangeAt Go.RowKit

theorem even_one (u : World) (x : Int) : Calls Try.prog 15 #[.slice (some ⟨u.heap.size, 0, none⟩) 1 1] (u.alloc (.cells #[.int .i64 x] 3)) (fun e w' => e = .returned (.bool true) ∧ (u.alloc (.cells #[.int .i64 x] 3)) = w') := by
  have := fev_any _ [x] 1 _ (by simp) (ints_one u x)
  rw [show evV [x] = true by unfold evV anyD isD; cases h : finV x <;> cases h2 : yesV x <;> simp [h, h2]] at this
  exact this
set_option maxHeartbeats 2000000 in
theorem forceOnly_walk (a0 : Int) (a1 : Bool) (w : World) (_w0 : (Lit.int .i64 a0).wf = true) :
    Calls Try.prog 5 #[.int .i64 a0, .bool a1] w fun e w' => e = .returned (.bool true) ∧ Below w.heap.size w w' := by
  clear _w0
  have T0 := ffrc_any a0 a1 w
  by_cases h1 : a0 = 1
  · subst h1
    have HB : Hid (∀ x, Below w.heap.size w (w.alloc (.cells #[.int .i64 x] 3))) := fun x => (Below.refl _ _).alloc (Nat.le_refl _) _
    cases a1
    · rw [show frcS 1 false = 5 by decide, show frcE 1 = 0 by decide] at T0
      have F := rfin_any 5 w
      rw [show finV 5 = true by decide] at F
      have D0 := fdam_any 5 false w
      rw [show damV 5 false = false by decide] at D0
      have D1 := fdam_any 5 true w
      rw [show damV 5 true = true by decide] at D1
      go_enter Try.func5, Try.ntmps5
      go_wp2_with (first
        | (go_at_call 8; refine T0.mono ?_; rintro e u ⟨rfl, rfl⟩)
        | (go_at_call 18; refine F.mono ?_; rintro e u ⟨rfl, rfl⟩)
        | (go_at_call 10; with_reducible refine D0.mono ?_; rintro e u ⟨rfl, rfl⟩)
        | (go_at_call 10; with_reducible refine D1.mono ?_; rintro e u ⟨rfl, rfl⟩)
        | (go_at_call 15; refine (even_one _ _).mono ?_; rintro e u ⟨rfl, rfl⟩)
        | (go_at_call 7; refine (fawake_any _).mono ?_; rintro e u ⟨rfl, hb⟩; have HE := hide (bel_on' (HB.out 5) hb); clear hb))
      go_ret
      exact ⟨rfl, HE.out⟩
    · rw [show frcS 1 true = 4 by decide, show frcE 1 = 0 by decide] at T0
      have F := rfin_any 4 w
      rw [show finV 4 = true by decide] at F
      have D0 := fdam_any 4 true w
      rw [show damV 4 true = false by decide] at D0
      have D1 := fdam_any 4 false w
      rw [show damV 4 false = true by decide] at D1
      go_enter Try.func5, Try.ntmps5
      go_wp2_with (first
        | (go_at_call 8; refine T0.mono ?_; rintro e u ⟨rfl, rfl⟩)
        | (go_at_call 18; refine F.mono ?_; rintro e u ⟨rfl, rfl⟩)
        | (go_at_call 10; with_reducible refine D0.mono ?_; rintro e u ⟨rfl, rfl⟩)
        | (go_at_call 10; with_reducible refine D1.mono ?_; rintro e u ⟨rfl, rfl⟩)
        | (go_at_call 15; refine (even_one _ _).mono ?_; rintro e u ⟨rfl, rfl⟩)
        | (go_at_call 7; refine (fawake_any _).mono ?_; rintro e u ⟨rfl, hb⟩; have HE := hide (bel_on' (HB.out 4) hb); clear hb))
      go_ret
      exact ⟨rfl, HE.out⟩
  · have e1 : frcS a0 a1 = 0 := by unfold frcS; rw [if_neg h1]
    have q : (a0 != 1) = true := by simpa using h1
    have e2 : frcE a0 = 7 ∨ frcE a0 = 1 := by unfold frcE; rw [if_neg h1]; cases mayV a0 <;> simp
    rw [e1] at T0
    clear h1 e1
    rcases e2 with e2 | e2
    all_goals
      rw [e2] at T0
      clear e2
      go_enter Try.func5, Try.ntmps5
      go_wp2_with (first
        | (go_at_call 8; refine T0.mono ?_; rintro e u ⟨rfl, rfl⟩)
        | (go_at_call 7; refine (fawake_any _).mono ?_; rintro e u ⟨rfl, hb⟩; have HE := hide hb; clear hb))
      go_ret
      exact ⟨rfl, HE.out⟩
end Go.Proofs.Ytlhfkomnmfkeaaa
