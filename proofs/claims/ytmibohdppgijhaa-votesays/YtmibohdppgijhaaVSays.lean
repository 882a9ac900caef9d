/-
  VoteSays's walk.
-/
import Derived.Test.YtmibohdppgijhaaVotA
namespace Go.Proofs.Ytmibohdppgijhaa
open Go.ChangeShapes Go.WideShapes Go.ChangeAt Go.RowKit

theorem says_cases (s m : Int) (c : Bool) :
    (nxK s m c = 0) ∨ (nxK s m c = 7 ∧ (nxS s m c = 1 ∨ nxS s m c = 4)) ∨ (nxK s m c = 8 ∧ (nxS s m c = 3 ∨ nxS s m c = 5)) ∨ (nxK s m c = 14 ∧ nxS s m c = 3) ∨ (nxK s m c = 13 ∧ nxS s m c = 2) ∨ (nxK s m c = 17 ∧ (nxS s m c = 4 ∨ nxS s m c = 5)) ∨ (nxK s m c = 11 ∧ (nxS s m c = 2 ∨ nxS s m c = 3 ∨ nxS s m c = 4 ∨ nxS s m c = 5)) := by
  rcases m_cases m with rfl | rfl | rfl | rfl | h
  case inr.inr.inr.inr => exact .inl (nx_no h).2
  all_goals
    rcases st_cases s with rfl | rfl | rfl | rfl | rfl | rfl | h
    case inr.inr.inr.inr.inr.inr => exact .inl (nx_out h).2
    all_goals (cases c <;> decide)
set_option maxHeartbeats 4000000 in
theorem voteSays_walk (a0 a1 : Int) (a2 : Bool) (w : World) (_w0 : (Lit.int .i64 a0).wf = true) (_w1 : (Lit.int .i64 a1).wf = true) :
    Calls Try.prog 5 #[.int .i64 a0, .int .i64 a1, .bool a2] w fun e w' => e = .returned (.bool true) ∧ Below w.heap.size w w' := by
  have C1 := hide (vnext_any a0 a1 a2 w)
  have hc := says_cases a0 (mnt a1) a2
  obtain ⟨x, hx⟩ : ∃ x, nxS a0 (mnt a1) a2 = x := ⟨_, rfl⟩
  obtain ⟨y, hy⟩ : ∃ y, nxK a0 (mnt a1) a2 = y := ⟨_, rfl⟩
  rw [hx, hy] at C1 hc
  clear hx hy _w0 _w1
  rcases hc with rfl | ⟨rfl, rfl | rfl⟩ | ⟨rfl, rfl | rfl⟩ | ⟨rfl, rfl⟩ | ⟨rfl, rfl⟩ | ⟨rfl, rfl | rfl⟩ | ⟨rfl, rfl | rfl | rfl | rfl⟩
  all_goals
    go_enter Try.func5, Try.ntmps5
    go_wp2_with (first
    | (go_at_call 10; refine C1.out.mono ?_; clear C1; rintro e u ⟨rfl, rfl⟩)
    | (go_at_call 10; refine (vnext_any _ _ _ _).mono ?_; rintro e u ⟨rfl, rfl⟩)
    | (go_at_call 12; refine (vdec_any _ _).mono ?_; rintro e u ⟨rfl, rfl⟩)
    | (go_at_call 16; refine (vfin_any _ _).mono ?_; rintro e u ⟨rfl, rfl⟩)
    | (go_at_call 14; refine (vmay_any _ _).mono ?_; rintro e u ⟨rfl, rfl⟩)
    | (go_at_call 18; refine (vname_any _ _).mono ?_; rintro e u ⟨rfl, rfl⟩)
    | (go_at_call 9; refine (vawake_any _).mono ?_; rintro e u ⟨rfl, rfl⟩))
    go_ret
    exact ⟨rfl, Below.refl _ _⟩
end Go.Proofs.Ytmibohdppgijhaa
