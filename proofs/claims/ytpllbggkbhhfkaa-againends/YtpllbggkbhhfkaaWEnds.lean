/-
  AgainEnds's walk.
-/
import Derived.Test.YtpllbggkbhhfkaaAgnA
import Derived.Test.YtpllbggkbhhfkaaNum
namespace Go.Proofs.Ytpllbggkbhhfkaa
open Go.ChangeShapes Go.WideShapes Go.ChangeAt Go.RowKit

/-- What stands between two rounds: j tries are gone, the last whole wait is y. -/
def ERel (w : World) (p : Nat) (T : Int) (wv i : Value) (wr : World) : Prop :=
  ∃ (j : Nat) (y : Int), i = .int .i64 j ∧ wv = .int .i64 (nextW y) ∧ (j : Int) ≤ T ∧ 0 ≤ y ∧ y ≤ 16 ∧ Hid (Ct 36 w.heap.size wr p (T - j) 0 y) ∧ Hid (Below w.heap.size w wr)
set_option maxHeartbeats 1000000 in
theorem againEnds_walk (a0 : Int) (w : World) (_w0 : (Lit.int .i64 a0).wf = true) :
    Calls Try.prog 5 #[.int .i64 a0] w fun e w' => e = .returned (.bool true) ∧ Below w.heap.size w w' := by
  obtain ⟨bA1, bA2⟩ := um_bd a0 20 (by omega) (by omega)
  obtain ⟨A, hA⟩ : ∃ A, um a0 20 = A := ⟨_, rfl⟩
  rw [hA] at bA1 bA2
  unfold um at hA
  have cT : cutT (1 + A) = 1 + A := by unfold cutT; rw [if_neg (by omega), if_neg (by omega)]
  have HA := hide cawake_any
  go_enter Try.func5, Try.ntmps5
  go_wp2_with (first
    | (go_at_call 7; refine (cnew_any _ _).mono ?_; rintro e u1 ⟨p, rfl, k1, b1⟩; rw [cT] at k1; have HK1 := hide k1; have HB1 := hide b1; clear k1 b1))
  clear hA cT
  go_loopw [4, 15] (fun wv i wr => ERel w p (1 + A) wv i wr) (fun _ i _ => (1 + A - intOf i).toNat)
  case atStart => exact ⟨0, 0, rfl, rfl, by simp; omega, by omega, by omega, by simpa using HK1, HB1⟩
  case round =>
    obtain ⟨j, y, rfl, rfl, hj, hy0, hy1, HK, HB⟩ := hrel
    clear HK1 HB1
    by_cases hlt : (j : Int) < 1 + A
    · have CL := cleft_any HK.out
      obtain ⟨W, hW⟩ : ∃ W, nextW y = W := ⟨_, rfl⟩
      obtain ⟨bW1, bW2⟩ := nextW_bd y
      rw [hW] at bW1 bW2 ⊢
      have C1 := try_on (b := true) (l' := 1 + A - j - 1) (x' := W) (y' := W) HK.out HB.out (good_of (by omega)) (by unfold tryB; simp; omega) (by unfold tryL; rw [show tryB (1 + A - j) 0 = true by unfold tryB; simp; omega]; rfl) (by unfold tryX; rw [show tryB (1 + A - j) 0 = true by unfold tryB; simp; omega]; exact hW) (by unfold tryY; rw [show tryB (1 + A - j) 0 = true by unfold tryB; simp; omega]; exact hW)
      have S2 := hide (fun (u : World) (k : Ct 36 w.heap.size u p (1 + A - j - 1) W W) (b : Below w.heap.size w u) => try_on (b := false) (l' := 1 + A - j - 1) (x' := W) (y' := W) k b (good_of (by omega)) (by unfold tryB; simp; omega) (by unfold tryL; rw [show tryB (1 + A - j - 1) W = false by unfold tryB; simp; omega]; rfl) (by unfold tryX; rw [show tryB (1 + A - j - 1) W = false by unfold tryB; simp; omega]; rfl) (by unfold tryY; rw [show tryB (1 + A - j - 1) W = false by unfold tryB; simp; omega]; rfl))
      clear HK HB hW
      go_wp2_with (first
        | (go_at_call 14; refine CL.mono ?_; clear CL; rintro e u6 ⟨rfl, rfl⟩)
        | (go_at_call 9; refine C1.mono ?_; clear C1; rintro e u2 ⟨rfl, k2, b2⟩; have C2 := S2.out u2 k2 b2; clear k2 b2 S2)
        | (go_at_call 9; refine C2.mono ?_; clear C2; rintro e u3 ⟨rfl, k3, b3⟩; have HK3 := hide k3; have HB3 := hide b3; have CW := cwait_any k3; clear k3 b3)
        | (go_at_call 13; refine CW.mono ?_; clear CW; rintro e u7 ⟨rfl, rfl⟩))
      go_loopw [40] (fun i vr => ∃ m : Nat, i = .int .i64 m ∧ (m : Int) ≤ W ∧ Hid (Ct 36 w.heap.size vr p (1 + A - j - 1) (W - m) W) ∧ Hid (Below w.heap.size w vr)) (fun i _ => (W - intOf i).toNat)
      case atStart => exact ⟨0, rfl, by simp; omega, by simpa using HK3, HB3⟩
      case round =>
        obtain ⟨m, rfl, hm, HK, HB⟩ := hrel
        clear HK3 HB3
        by_cases hml : (m : Int) < W
        · have px : passX (W - m) = W - (m + 1 : Nat) := by unfold passX; split <;> omega
          obtain ⟨q, hq⟩ : ∃ q, ((m : Int) == W - 1) = q := ⟨_, rfl⟩
          have C1 := pass_on (b := q) (x' := W - (m + 1 : Nat)) HK.out HB.out (good_of (by omega)) (by rw [px, ← hq, Bool.eq_iff_iff]; simp only [decide_eq_true_eq, beq_iff_eq]; omega) px
          have qq : (q != q) = false := by cases q <;> rfl
          clear px HK HB
          go_wp2_with (first
            | (go_at_call 11; refine C1.mono ?_; clear C1; rintro e u4 ⟨rfl, k4, b4⟩; have HK4 := hide k4; have HB4 := hide b4; clear k4 b4))
          go_roundw
          case rel => exact ⟨m + 1, by go_num, by omega, HK4, HB4⟩
          case measure => simp [intOf]; omega
        · have HK2 := HK.out
          have e1 : W - (m : Int) = 0 := by omega
          have e2 : 1 + A - (j : Int) - 1 = 1 + A - (j + 1 : Nat) := by omega
          rw [e1, e2] at HK2
          have HK3 := hide HK2
          clear e1 e2 HK2 HK
          by_cases h16 : 16 < 2 * W
          · have HN : Hid (16 = nextW W) := by show _ = _; unfold nextW; rw [if_neg (by omega), if_pos h16]
            go_wp2
            go_roundw
            case rel => exact ⟨j + 1, W, by go_num, by rw [← HN.out], by omega, by omega, by omega, HK3, HB⟩
            case measure => simp [intOf]; omega
          · have HN : Hid (2 * W = nextW W) := by show _ = _; unfold nextW; rw [if_neg (by omega), if_neg h16]
            go_wp2
            go_roundw
            case rel => exact ⟨j + 1, W, by go_num, by rw [← HN.out], by omega, by omega, by omega, HK3, HB⟩
            case measure => simp [intOf]; omega
    · obtain ⟨T, hT⟩ : ∃ T, 1 + A - (j : Int) = T := ⟨_, rfl⟩
      have hT0 : T = 0 := by omega
      have HKT := HK.out
      rw [hT, hT0] at HKT
      have C1 := try_on (b := false) (l' := 0) (x' := 0) (y' := y) HKT HB.out (good_of (by omega)) rfl rfl rfl rfl
      clear HK HB HKT hT hT0
      go_wp2_with (first
        | (go_at_call 9; refine C1.mono ?_; clear C1; rintro e u3 ⟨rfl, k3, b3⟩; have HB3 := hide b3; have CL := cleft_any k3; have CW := cwait_any k3; clear k3 b3)
        | (go_at_call 14; refine CL.mono ?_; clear CL; rintro e u6 ⟨rfl, rfl⟩)
        | (go_at_call 13; refine CW.mono ?_; clear CW; rintro e u7 ⟨rfl, rfl⟩)
        | (go_at_call 15; refine (HA.out _).mono ?_; rintro e u8 ⟨rfl, b8⟩; have HB8 := hide b8; clear b8))
      go_ret
      exact ⟨rfl, bel_on' HB3.out HB8.out⟩
end Go.Proofs.Ytpllbggkbhhfkaa
