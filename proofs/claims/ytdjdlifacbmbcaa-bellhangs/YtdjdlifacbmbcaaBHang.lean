/-
  BellHangs' walk.
-/
import Derived.Test.YtdjdlifacbmbcaaBelW
import Derived.Test.YtdjdlifacbmbcaaNum
namespace Go.Proofs.Ytdjdlifacbmbcaa
open Go.ChangeShapes Go.WideShapes Go.ChangeAt Go.RowKit Go.Maps

set_option maxHeartbeats 2000000 in
theorem bellHangs_walk (a0 a1 a2 : Int) (w : World) (_w0 : (Lit.int .i64 a0).wf = true) (_w1 : (Lit.int .i64 a1).wf = true) (_w2 : (Lit.int .i64 a2).wf = true) :
    Calls Try.prog 6 #[.int .i64 a0, .int .i64 a1, .int .i64 a2] w fun e w' => e = .returned (.bool true) ∧ Below w.heap.size w w' := by
  obtain ⟨bA1, bA2⟩ := um_bd a0 20 (by omega) (by omega)
  obtain ⟨bR1, bR2⟩ := um_bd a2 30 (by omega) (by omega)
  obtain ⟨A, hA⟩ : ∃ A, um a0 20 = A := ⟨_, rfl⟩
  obtain ⟨R, hR⟩ : ∃ R : Nat, um a2 30 = R := ⟨(um a2 30).toNat, by omega⟩
  rw [hA] at bA1 bA2
  rw [hR] at bR1 bR2
  unfold um at hA hR
  have N0 := bnew_on (Below.refl _ w) (r := 1 + A) (t := 1 + A) (clampT_in (by omega) (by omega))
  have HWI := hide _w1
  clear _w0 _w1 _w2
  by_cases hi : isI a1 = true
  · obtain ⟨i1, i2⟩ := isI_iff.1 hi
    have HI := hide hi
    have HT : Hid (1 ≤ 1 + A) := by show (1 : Int) ≤ _; omega
    have t1 : Hid (∀ p u, To w u p (1 + A) (fun _ => 0) 0 → Calls Try.prog 15 #[.pointer (some ⟨p, 0, none⟩), .int .i64 a1] u fun e w' => e = .returned (.tuple #[.bool false, .bool false]) ∧ To w w' p (1 + A) (fun _ => 0) 1) := fun p u k => bring_on k HWI.out (by omega) (by simp [hasB]) (by simp [oftB]) (by simp [ringH])
    have t2 : Hid (∀ p u, To w u p (1 + A) (fun _ => 0) 1 → Calls Try.prog 9 #[.pointer (some ⟨p, 0, none⟩), .int .i64 a1] u fun e w' => e = .returned (.bool true) ∧ To w w' p (1 + A) (oneH a1 (leftV (1 + A) 0)) 2) := fun p u k => by
      have hB : hangB (fun _ => 0) a1 = true := by simp [hangB, HI.out]
      exact bhang_on k HWI.out (by omega) hB (by unfold hangH; rw [if_pos hB, leftV_zero HT.out]; rfl)
    have t3 : Hid (∀ p u, To w u p (1 + A) (oneH a1 (leftV (1 + A) 0)) 2 → Calls Try.prog 9 #[.pointer (some ⟨p, 0, none⟩), .int .i64 a1] u fun e w' => e = .returned (.bool false) ∧ To w w' p (1 + A) (oneH a1 (leftV (1 + A) 0)) 3) := fun p u k => by
      have hB : hangB (oneH a1 (leftV (1 + A) 0)) a1 = false := by have := leftV_pos (1 + A) 0; simp [hangB, oneH_at]; omega
      exact bhang_on k HWI.out (by omega) hB (by unfold hangH; rw [hB]; rfl)
    have t4 : Hid (∀ p u (j : Nat), j ≤ R → To w u p (1 + A) (oneH a1 (leftV (1 + A) j)) (3 + j) → Calls Try.prog 15 #[.pointer (some ⟨p, 0, none⟩), .int .i64 a1] u fun e w' => e = .returned (.tuple #[.bool true, .bool (decide ((j : Int) ≥ 1 + A))]) ∧ To w w' p (1 + A) (oneH a1 (leftV (1 + A) (j + 1))) (3 + (j + 1))) := fun p u j hj k =>
      bring_on k HWI.out (by omega) (has_upd _ _ _ (leftV_pos _ _)) (oft_upd _ _ _ _) (ring_upd _ _ _ _)
    have t5 : Hid (∀ p u, To w u p (1 + A) (oneH a1 (leftV (1 + A) R)) (3 + R) → Calls Try.prog 11 #[.pointer (some ⟨p, 0, none⟩), .int .i64 a1] u fun e w' => e = .returned (.bool true) ∧ To w w' p (1 + A) (fun _ => 0) (3 + R + 1)) := fun p u k =>
      bcut_on k HWI.out (has_upd _ _ _ (leftV_pos _ _)) (by unfold cutH oneH; rw [upd_twice]; exact oneH_zero a1)
    have t6 : Hid (∀ p u, To w u p (1 + A) (fun _ => 0) (3 + R + 1) → Calls Try.prog 19 #[.pointer (some ⟨p, 0, none⟩), .int .i64 3] u (OwnInts u ([] : List Int))) := fun p u k => k.ids (by omega) (L := []) idsL_zero (m := 3) (by omega)
    have t7 : Hid (∀ p u, To w u p (1 + A) (fun _ => 0) (3 + R + 1) → Calls Try.prog 9 #[.pointer (some ⟨p, 0, none⟩), .int .i64 a1] u fun e w' => e = .returned (.bool true) ∧ To w w' p (1 + A) (oneH a1 (leftV (1 + A) 0)) (3 + R + 1 + 1)) := fun p u k => by
      have hB : hangB (fun _ => 0) a1 = true := by simp [hangB, HI.out]
      exact bhang_on k HWI.out (by omega) hB (by unfold hangH; rw [if_pos hB, leftV_zero HT.out]; rfl)
    have t8 : Hid (∀ p u, To w u p (1 + A) (oneH a1 (leftV (1 + A) 0)) (3 + R + 1 + 1) → Calls Try.prog 15 #[.pointer (some ⟨p, 0, none⟩), .int .i64 a1] u fun e w' => e = .returned (.tuple #[.bool true, .bool false]) ∧ Below w.heap.size w w') := fun p u k => by
      refine (bring_on k HWI.out (by omega) (has_upd _ _ _ (leftV_pos _ _)) (c := false) ?_ rfl).mono (fun _ _ ⟨h1, h2⟩ => ⟨h1, h2.2⟩)
      exact (oft_upd _ _ _ _).trans (by simp; omega)
    clear hi
    go_enter Try.func6, Try.ntmps6
    go_wp2_with (first
      | (go_at_call 7; refine N0.mono ?_; rintro e u1 ⟨p, rfl, k1⟩; have T1 := t1.out p u1 k1; clear t1 N0 k1)
      | (go_at_call 15; refine T1.mono ?_; rintro e u2 ⟨rfl, k2⟩; have T2 := t2.out p u2 k2; clear t2 T1 k2)
      | (go_at_call 9; refine T2.mono ?_; rintro e u3 ⟨rfl, k3⟩; have T3 := t3.out p u3 k3; clear t3 T2 k3)
      | (go_at_call 9; refine T3.mono ?_; rintro e u4 ⟨rfl, k4⟩; clear T3; have K4 := hide k4; clear k4))
    go_loopw [64] (fun i wr => ∃ j : Nat, i = .int .i64 j ∧ j ≤ R ∧ Hid (To w wr p (1 + A) (oneH a1 (leftV (1 + A) j)) (3 + j))) (fun i _ => R - (intOf i).toNat)
    case atStart => exact ⟨0, rfl, Nat.zero_le _, K4⟩
    case round =>
      obtain ⟨j, rfl, hj, HK⟩ := hrel
      by_cases hlt : j < R
      · have ql : (j : Int) < (R : Int) := by omega
        have T4 := t4.out p wr j hj HK.out
        by_cases hge : (j : Int) ≥ 1 + A
        · rw [decide_eq_true hge] at T4
          go_wp2_with (go_at_call 15; refine T4.mono ?_; rintro e u5 ⟨rfl, k5⟩; clear T4; have K5 := hide k5; clear k5)
          go_roundw
          case rel => exact ⟨j + 1, by go_num, by omega, K5⟩
          case measure => simp [intOf]; omega
        · rw [decide_eq_false hge] at T4
          go_wp2_with (go_at_call 15; refine T4.mono ?_; rintro e u5 ⟨rfl, k5⟩; clear T4; have K5 := hide k5; clear k5)
          go_roundw
          case rel => exact ⟨j + 1, by go_num, by omega, K5⟩
          case measure => simp [intOf]; omega
      · have ql : ¬ (j : Int) < (R : Int) := by omega
        obtain rfl : j = R := by omega
        have T5 := t5.out p wr HK.out
        clear HK t5 t4
        go_wp2_with (first
          | (go_at_call 11; refine T5.mono ?_; rintro e u5 ⟨rfl, k5⟩; clear T5; have T6 := t6.out p u5 k5; have K5 := hide k5; clear k5 t6)
          | (go_at_call 19; refine T6.mono ?_; rintro e u6 ⟨a6, c6, rfl, -, -, b6⟩; have T7 := t7.out p u6 (K5.out.on b6); clear T6 t7 b6 K5)
          | (go_at_call 9; refine T7.mono ?_; rintro e u7 ⟨rfl, k7⟩; have T8 := t8.out p u7 k7; clear T7 t8 k7)
          | (go_at_call 15; refine T8.mono ?_; rintro e u8 ⟨rfl, b8⟩; have HB8 := hide b8; clear T8 b8)
          | (go_at_call 20; refine (bawake_any _).mono ?_; rintro e u9 ⟨rfl, b9⟩; have HB9 := hide b9; clear b9))
        go_ret
        exact ⟨rfl, bel_on' HB8.out HB9.out⟩
  · have hi0 : isI a1 = false := by simpa using hi
    have t1 : Hid (∀ p u, To w u p (1 + A) (fun _ => 0) 0 → Calls Try.prog 9 #[.pointer (some ⟨p, 0, none⟩), .int .i64 a1] u fun e w' => e = .returned (.bool false) ∧ To w w' p (1 + A) (fun _ => 0) 1) := fun p u k => by
      have hB : hangB (fun _ => 0) a1 = false := by simp [hangB, hi0]
      exact bhang_on k HWI.out (by omega) hB (by unfold hangH; rw [hB]; rfl)
    have t2 : Hid (∀ p u, To w u p (1 + A) (fun _ => 0) 1 → Calls Try.prog 13 #[.pointer (some ⟨p, 0, none⟩), .int .i64 a1] u fun e w' => e = .returned (.bool false) ∧ Below w.heap.size w w') := fun p u k => by
      exact (bagn_on k HWI.out (by omega) (by simp [hasB]) rfl).mono (fun _ _ ⟨h1, h2⟩ => ⟨h1, h2.2⟩)
    have hcs : a1 < 1 ∨ (¬ a1 < 1 ∧ a1 > 999) := by
      rcases Decidable.em (a1 < 1) with h | h
      · exact .inl h
      · refine .inr ⟨h, ?_⟩
        rcases Decidable.em (a1 > 999) with h' | h'
        · exact h'
        · exact absurd (isI_iff.2 ⟨by omega, by omega⟩) hi
    clear hi hi0
    rcases hcs with h1 | ⟨h1, h2⟩
    all_goals
      go_enter Try.func6, Try.ntmps6
      go_wp2_with (first
        | (go_at_call 7; refine N0.mono ?_; rintro e u1 ⟨p, rfl, k1⟩; have T1 := t1.out p u1 k1; clear t1 N0 k1)
        | (go_at_call 9; refine T1.mono ?_; rintro e u2 ⟨rfl, k2⟩; have T2 := t2.out p u2 k2; clear t2 T1 k2)
        | (go_at_call 13; refine T2.mono ?_; rintro e u3 ⟨rfl, b3⟩; have HB3 := hide b3; clear T2 b3)
        | (go_at_call 20; refine (bawake_any _).mono ?_; rintro e u9 ⟨rfl, b9⟩; have HB9 := hide b9; clear b9))
      go_ret
      exact ⟨rfl, bel_on' HB3.out HB9.out⟩
end Go.Proofs.Ytdjdlifacbmbcaa
