/-
  The contract of vote's Legal.
-/
import Derived.Test.YtmibohdppgijhaaVotF
import Derived.Test.YtmibohdppgijhaaInts
namespace Go.Proofs.Ytmibohdppgijhaa
open Go.ChangeShapes Go.WideShapes Go.ChangeAt Go.RowKit

theorem ret_nat {a b : Nat} (h : a = b) : Ending.returned (.int .i64 (a : Int)) = .returned (.int .i64 (b : Int)) := by rw [h]
set_option maxHeartbeats 2000000 in
theorem vlegal_any (a : Option Addr) (l : List Int) (c : Nat) (w : World) (hl : l.length ≤ 4611686018427387904) (hc : l.length ≤ c) (ha : Ints w a l) :
    Calls Try.prog 20 #[.slice a l.length c] w fun e w' => e = .returned (.int .i64 (legV l : Int)) ∧ w = w' := by
  by_cases h0 : l.length = 0
  · have HE := hide (legV_nil h0).symm
    rw [h0]
    have ew := hide ha
    clear hl ha hc
    go_enter Try.func20, Try.ntmps20
    go_wp2
    go_ret
    exact ⟨ret_nat HE.out, rfl⟩
  · rcases ha with ha | ⟨b, off, rfl, hcell⟩
    · rw [ha] at h0; exact absurd rfl h0
    have hpos : 0 < l.length := by omega
    have hc0 := hcell 0 hpos
    have qn : ((l.length : Int) == 0) = false := by simp only [beq_eq_false_iff_ne]; omega
    obtain ⟨x0, hx0⟩ : ∃ x, l.getD 0 0 = x := ⟨_, rfl⟩
    rw [hx0] at hc0
    simp only [Nat.add_zero] at hc0
    by_cases hz : x0 = 0
    · subst hz
      have HZ := hide hx0
      have HC := hide hcell
      clear hx0 hcell h0
      have HP := hide hpos
      go_enter Try.func20, Try.ntmps20
      go_wp2
      go_loopw [20] (fun i wr => ∃ k : Nat, k < l.length ∧ i = .int .i64 k ∧ Hid (legV l = legGo (l.getD k 0) (l.drop (k + 1)) + (k + 1)) ∧ wr = w) (fun i _ => l.length - (intOf i).toNat)
      case atStart => exact ⟨0, HP.out, rfl, legV_at HP.out HZ.out, rfl⟩
      case round =>
        obtain ⟨k, hk, rfl, HV, hw⟩ := hrel
        subst hw
        by_cases hlt : k < l.length - 1
        · have h1 := HC.out k hk
          have h2 := HC.out (k + 1) (by omega)
          obtain ⟨x, hx⟩ : ∃ x, l.getD k 0 = x := ⟨_, rfl⟩
          obtain ⟨y, hy⟩ : ∃ y, l.getD (k + 1) 0 = y := ⟨_, rfl⟩
          rw [hx] at h1
          rw [hy] at h2
          have CF := vfol_any x y wr
          cases hf : folV x y
          · rw [hf] at CF
            have HE : Hid (k + 1 = legV l) := by
              show k + 1 = legV l
              rw [HV.out, leg_off (by omega) (by rw [hx, hy]; exact hf)]; omega
            clear hx hy hf HV HC
            go_wp2_with (go_at_call 24; refine CF.mono ?_; rintro e u ⟨rfl, rfl⟩)
            go_ret
            exact ⟨ret_nat HE.out, rfl⟩
          · rw [hf] at CF
            have HE : Hid (legV l = legGo (l.getD (k + 1) 0) (l.drop (k + 1 + 1)) + (k + 1 + 1)) := by
              show legV l = _
              rw [HV.out, leg_on (by omega) (by rw [hx, hy]; exact hf)]; omega
            clear hx hy hf HV
            go_wp2_with (go_at_call 24; refine CF.mono ?_; rintro e u ⟨rfl, rfl⟩)
            go_roundw
            case rel => exact ⟨k + 1, by omega, by go_num, HE, by trivial⟩
            case measure => simp [intOf]; omega
        · have HE : Hid (l.length = legV l) := by
            show l.length = legV l
            rw [HV.out, leg_end (by omega)]; omega
          clear HV
          go_wp2
          go_ret
          exact ⟨ret_nat HE.out, rfl⟩
    · have HE := hide (legV_first hpos (by rw [hx0]; exact hz)).symm
      have qz : (x0 != 0) = true := by simpa using hz
      clear hx0 hcell h0 hz
      go_enter Try.func20, Try.ntmps20
      go_wp2
      go_ret
      exact ⟨ret_nat HE.out, rfl⟩
end Go.Proofs.Ytmibohdppgijhaa
