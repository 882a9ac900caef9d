/-
  VoteNames's walk.
-/
import Derived.Test.YtmibohdppgijhaaVotR
namespace Go.Proofs.Ytmibohdppgijhaa
open Go.ChangeShapes Go.WideShapes Go.ChangeAt Go.RowKit

def nmL (s : Int) : List UInt8 :=
  if s = 0 then [110, 111, 110, 101] else if s = 1 then [114, 101, 97, 100, 121] else if s = 2 then [121, 101, 115] else if s = 3 then [110, 111]
  else if s = 4 then [102, 111, 114, 99, 101, 100, 32, 121, 101, 115] else if s = 5 then [102, 111, 114, 99, 101, 100, 32, 110, 111] else []
theorem nm_list (s : Int) : (nmV s).toList = nmL s := by
  rw [ByteArray.toList_eq]
  unfold nmV nmL
  (repeat' split) <;> rfl
theorem nm_some {s : Int} (h : mayV s = true) : (nmV s).toList.isEmpty = false ∧ ¬ (nmV s).toList = [] := by
  rw [nm_list]
  rcases may_in h with rfl | rfl | rfl | rfl | rfl | rfl <;> exact ⟨rfl, by decide⟩
theorem nm_none {s : Int} (h : mayV s = false) : (nmV s).toList.isEmpty = true ∧ (nmV s).toList = [] := by
  rw [nm_out (may_out h), ByteArray.toList_eq]; exact ⟨rfl, rfl⟩
theorem nm_same {s t : Int} (h : mayV s = true) (k : mayV t = true) : ((nmV s).toList == (nmV t).toList) = (s == t) := by
  rw [nm_list, nm_list]
  rcases may_in h with rfl | rfl | rfl | rfl | rfl | rfl <;> rcases may_in k with rfl | rfl | rfl | rfl | rfl | rfl <;> rfl
theorem fin_may {s : Int} (h : mayV s = false) : finV s = false := by unfold mayV at h; unfold finV; simp at h ⊢; omega
set_option maxHeartbeats 2000000 in
theorem voteNames_walk (a0 a1 : Int) (w : World) (_w0 : (Lit.int .i64 a0).wf = true) (_w1 : (Lit.int .i64 a1).wf = true) :
    Calls Try.prog 8 #[.int .i64 a0, .int .i64 a1] w fun e w' => e = .returned (.bool true) ∧ Below w.heap.size w w' := by
  have M0 := hide (fun u => vmay_any a0 u)
  have M1 := hide (fun u => vmay_any a1 u)
  have R0 := hide (fun u => rmay_any a0 u)
  have N0 := hide (fun u => vname_any a0 u)
  have N1 := hide (fun u => vname_any a1 u)
  have F0 := hide (fun u => vfin_any a0 u)
  have D0 := hide (fun u => vdec_any a0 u)
  cases hm : mayV a0
  · obtain ⟨q0, q0b⟩ := nm_none hm
    rw [hm] at M0 R0
    rw [fin_may hm] at F0 D0
    obtain ⟨x, hx⟩ : ∃ x, nmV a0 = x := ⟨_, rfl⟩
    obtain ⟨y, hy⟩ : ∃ y, nmV a1 = y := ⟨_, rfl⟩
    obtain ⟨z, hz⟩ : ∃ z, yesV a0 = z := ⟨_, rfl⟩
    rw [hx] at N0 q0 q0b
    rw [hy] at N1
    rw [hz] at D0
    clear hx hy hz hm _w0 _w1
    go_enter Try.func8, Try.ntmps8
    go_wp2_with (first
      | (go_at_call 18; refine (N0.out _).mono ?_; clear N0; rintro e u ⟨rfl, rfl⟩)
      | (go_at_call 18; refine (N1.out _).mono ?_; clear N1; rintro e u ⟨rfl, rfl⟩)
      | (go_at_call 12; refine (D0.out _).mono ?_; clear D0; rintro e u ⟨rfl, rfl⟩)
      | (go_at_call 14; refine (M0.out _).mono ?_; rintro e u ⟨rfl, rfl⟩)
      | (go_at_call 15; refine (R0.out _).mono ?_; rintro e u ⟨rfl, rfl⟩)
      | (go_at_call 16; refine (F0.out _).mono ?_; rintro e u ⟨rfl, rfl⟩)
      | (go_at_call 9; refine (vawake_any _).mono ?_; rintro e u ⟨rfl, rfl⟩))
    go_ret
    exact ⟨rfl, Below.refl _ _⟩
  · obtain ⟨q0, q0b⟩ := nm_some hm
    have q1 := fun h => nm_same (s := a0) (t := a1) hm h
    rw [hm] at M0 R0
    cases hn : mayV a1
    · rw [hn] at M1
      clear q1
      obtain ⟨x, hx⟩ : ∃ x, nmV a0 = x := ⟨_, rfl⟩
      obtain ⟨y, hy⟩ : ∃ y, nmV a1 = y := ⟨_, rfl⟩
      obtain ⟨z, hz⟩ : ∃ z, yesV a0 = z := ⟨_, rfl⟩
      obtain ⟨f, hf⟩ : ∃ f, finV a0 = f := ⟨_, rfl⟩
      rw [hx] at N0 q0 q0b
      rw [hy] at N1
      rw [hz, hf] at D0
      rw [hf] at F0
      clear hx hy hz hm hf hn _w0 _w1
      cases f
      all_goals
        go_enter Try.func8, Try.ntmps8
        go_wp2_with (first
          | (go_at_call 18; refine (N0.out _).mono ?_; clear N0; rintro e u ⟨rfl, rfl⟩)
          | (go_at_call 18; refine (N1.out _).mono ?_; clear N1; rintro e u ⟨rfl, rfl⟩)
          | (go_at_call 12; refine (D0.out _).mono ?_; clear D0; rintro e u ⟨rfl, rfl⟩)
          | (go_at_call 14; with_reducible refine (M0.out _).mono ?_; rintro e u ⟨rfl, rfl⟩)
          | (go_at_call 14; with_reducible refine (M1.out _).mono ?_; rintro e u ⟨rfl, rfl⟩)
          | (go_at_call 15; refine (R0.out _).mono ?_; rintro e u ⟨rfl, rfl⟩)
          | (go_at_call 16; refine (F0.out _).mono ?_; rintro e u ⟨rfl, rfl⟩)
          | (go_at_call 9; refine (vawake_any _).mono ?_; rintro e u ⟨rfl, rfl⟩))
        go_ret
        exact ⟨rfl, Below.refl _ _⟩
    · have q1 := q1 hn
      rw [hn] at M1
      obtain ⟨x, hx⟩ : ∃ x, nmV a0 = x := ⟨_, rfl⟩
      obtain ⟨y, hy⟩ : ∃ y, nmV a1 = y := ⟨_, rfl⟩
      obtain ⟨z, hz⟩ : ∃ z, yesV a0 = z := ⟨_, rfl⟩
      obtain ⟨f, hf⟩ : ∃ f, finV a0 = f := ⟨_, rfl⟩
      rw [hx] at N0 q0 q0b q1
      rw [hy] at N1 q1
      rw [hz, hf] at D0
      rw [hf] at F0
      have q2 : ((a0 == a1) == (a0 == a1)) = true := by simp
      clear hx hy hz hm hf hn _w0 _w1
      cases f
      all_goals
        go_enter Try.func8, Try.ntmps8
        go_wp2_with (first
          | (go_at_call 18; refine (N0.out _).mono ?_; clear N0; rintro e u ⟨rfl, rfl⟩)
          | (go_at_call 18; refine (N1.out _).mono ?_; clear N1; rintro e u ⟨rfl, rfl⟩)
          | (go_at_call 12; refine (D0.out _).mono ?_; clear D0; rintro e u ⟨rfl, rfl⟩)
          | (go_at_call 14; with_reducible refine (M0.out _).mono ?_; rintro e u ⟨rfl, rfl⟩)
          | (go_at_call 14; with_reducible refine (M1.out _).mono ?_; rintro e u ⟨rfl, rfl⟩)
          | (go_at_call 15; refine (R0.out _).mono ?_; rintro e u ⟨rfl, rfl⟩)
          | (go_at_call 16; refine (F0.out _).mono ?_; rintro e u ⟨rfl, rfl⟩)
          | (go_at_call 9; refine (vawake_any _).mono ?_; rintro e u ⟨rfl, rfl⟩))
        go_ret
        exact ⟨rfl, Below.refl _ _⟩
end Go.Proofs.Ytmibohdppgijhaa
