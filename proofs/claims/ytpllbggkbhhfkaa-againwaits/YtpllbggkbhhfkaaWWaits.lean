/-
  AgainWaits's walk.
-/
import Derived.Test.YtpllbggkbhhfkaaAgnA
import Derived.Test.YtpllbggkbhhfkaaNum
namespace Go.Proofs.Ytpllbggkbhhfkaa
open Go.ChangeShapes Go.WideShapes Go.ChangeAt Go.RowKit

set_option maxHeartbeats 1000000 in
theorem againWaits_walk (a0 a1 a2 : Int) (w : World) (_w0 : (Lit.int .i64 a0).wf = true) (_w1 : (Lit.int .i64 a1).wf = true) (_w2 : (Lit.int .i64 a2).wf = true) :
    Calls Try.prog 6 #[.int .i64 a0, .int .i64 a1, .int .i64 a2] w fun e w' => e = .returned (.bool true) ∧ Below w.heap.size w w' := by
  obtain ⟨bA1, bA2⟩ := um_bd a0 19 (by omega) (by omega)
  obtain ⟨bB1, bB2⟩ := um_bd a1 20 (by omega) (by omega)
  obtain ⟨bN1, bN2⟩ := um_bd a2 20 (by omega) (by omega)
  obtain ⟨A, hA⟩ : ∃ A, um a0 19 = A := ⟨_, rfl⟩
  obtain ⟨K, hK⟩ : ∃ K, um a1 20 = K := ⟨_, rfl⟩
  obtain ⟨M, hM⟩ : ∃ M, um a2 20 = M := ⟨_, rfl⟩
  rw [hA] at bA1 bA2
  rw [hK] at bB1 bB2
  rw [hM] at bN1 bN2
  unfold um at hA hK hM
  have cT : cutT (2 + A) = 2 + A := by unfold cutT; rw [if_neg (by omega), if_neg (by omega)]
  have tb : ∀ l, 1 ≤ l → tryB l 0 = true := fun l h => by unfold tryB; simp; omega
  have HA := hide cawake_any
  go_enter Try.func6, Try.ntmps6
  go_wp2_with (first
    | (go_at_call 7; refine (cnew_any _ _).mono ?_; rintro e u1 ⟨p, rfl, k1, b1⟩; rw [cT] at k1; have C1 := try_on (b := true) (l' := 1 + A) (x' := 1) (y' := 1) k1 b1 (good_of (by omega)) (tb _ (by omega)) (by unfold tryL; rw [tb _ (by omega)]; simp; omega) (by unfold tryX; rw [tb _ (by omega)]; decide) (by unfold tryY; rw [tb _ (by omega)]; decide); clear k1 b1)
    | (go_at_call 9; refine C1.mono ?_; clear C1; rintro e u2 ⟨rfl, k2, b2⟩; have HK2 := hide k2; have HB2 := hide b2; have CL := cleft_any k2; clear k2 b2)
    | (go_at_call 14; refine CL.mono ?_; clear CL; rintro e u6 ⟨rfl, rfl⟩))
  clear hA hK hM cT tb
  go_loopw [30] (fun i wr => ∃ j : Nat, i = .int .i64 j ∧ (j : Int) ≤ K ∧ Hid (Ct 36 w.heap.size wr p (1 + A) 1 1) ∧ Hid (Below w.heap.size w wr)) (fun i _ => (K - intOf i).toNat)
  case atStart => exact ⟨0, rfl, bB1, HK2, HB2⟩
  case round =>
    obtain ⟨j, rfl, hj, HK, HB⟩ := hrel
    clear HK2 HB2
    by_cases hlt : (j : Int) < K
    · have C1 := try_on (b := false) (l' := 1 + A) (x' := 1) (y' := 1) HK.out HB.out (good_of (by omega)) (by unfold tryB; simp) (by unfold tryL; rw [show tryB (1 + A) 1 = false by unfold tryB; simp]; rfl) (by unfold tryX; rw [show tryB (1 + A) 1 = false by unfold tryB; simp]; rfl) (by unfold tryY; rw [show tryB (1 + A) 1 = false by unfold tryB; simp]; rfl)
      clear HK HB
      go_wp2_with (first
        | (go_at_call 9; refine C1.mono ?_; clear C1; rintro e u3 ⟨rfl, k3, b3⟩; have HK3 := hide k3; have HB3 := hide b3; have CL := cleft_any k3; have CW := cwait_any k3; clear k3 b3)
        | (go_at_call 14; refine CL.mono ?_; clear CL; rintro e u6 ⟨rfl, rfl⟩)
        | (go_at_call 13; refine CW.mono ?_; clear CW; rintro e u7 ⟨rfl, rfl⟩))
      go_roundw
      case rel => exact ⟨j + 1, by go_num, by omega, HK3, HB3⟩
      case measure => simp [intOf]; omega
    · go_wp2
      go_loopw [48] (fun i vr => ∃ (m : Nat) (x : Int), i = .int .i64 m ∧ (m : Int) ≤ 1 + M ∧ Hid (Ct 36 w.heap.size vr p (1 + A) x 1 ∧ 0 ≤ x ∧ x ≤ 1 ∧ (1 ≤ m → x = 0)) ∧ Hid (Below w.heap.size w vr)) (fun i _ => (1 + M - intOf i).toNat)
      case atStart => exact ⟨0, 1, rfl, by simp; omega, ⟨HK.out, by omega, by omega, by omega⟩, HB⟩
      case round =>
        obtain ⟨m, x, rfl, hm, HS, HB2⟩ := hrel
        clear HK HB
        by_cases hlt2 : (m : Int) < 1 + M
        · have px : passX x = 0 := by
            have := HS.out
            unfold passX
            split <;> omega
          have C1 := pass_on (b := true) (x' := 0) HS.out.1 HB2.out (good_of (by have := HS.out; omega)) (by rw [px]; rfl) px
          clear px HS HB2
          go_wp2_with (first
            | (go_at_call 11; refine C1.mono ?_; clear C1; rintro e u3 ⟨rfl, k3, b3⟩; have HK3 := hide k3; have HB3 := hide b3; have CW := cwait_any k3; clear k3 b3)
            | (go_at_call 13; refine CW.mono ?_; clear CW; rintro e u7 ⟨rfl, rfl⟩))
          go_roundw
          case rel => exact ⟨m + 1, 0, by go_num, by omega, ⟨HK3.out, by omega, by omega, fun _ => rfl⟩, HB3⟩
          case measure => simp [intOf]; omega
        · obtain rfl : x = 0 := by have := HS.out; omega
          have C1 := try_on (b := true) (l' := A) (x' := 2) (y' := 2) HS.out.1 HB2.out (good_of (by omega)) (by unfold tryB; simp; omega) (by unfold tryL; rw [show tryB (1 + A) 0 = true by unfold tryB; simp; omega]; simp; omega) (by unfold tryX; rw [show tryB (1 + A) 0 = true by unfold tryB; simp; omega]; decide) (by unfold tryY; rw [show tryB (1 + A) 0 = true by unfold tryB; simp; omega]; decide)
          have qA : (A == 1 + A - 1) = true := by simp; omega
          clear HS HB2
          go_wp2_with (first
            | (go_at_call 9; refine C1.mono ?_; clear C1; rintro e u3 ⟨rfl, k3, b3⟩; have HB3 := hide b3; have CL := cleft_any k3; have CW := cwait_any k3; clear k3 b3)
            | (go_at_call 14; refine CL.mono ?_; clear CL; rintro e u6 ⟨rfl, rfl⟩)
            | (go_at_call 13; refine CW.mono ?_; clear CW; rintro e u7 ⟨rfl, rfl⟩)
            | (go_at_call 15; refine (HA.out _).mono ?_; rintro e u8 ⟨rfl, b8⟩; have HB8 := hide b8; clear b8))
          go_ret
          exact ⟨rfl, bel_on' HB3.out HB8.out⟩
end Go.Proofs.Ytpllbggkbhhfkaa
