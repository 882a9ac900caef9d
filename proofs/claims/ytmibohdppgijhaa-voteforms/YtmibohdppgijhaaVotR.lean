/-
  The reference's May, Final, Decided, Name, Next, Legal.
-/
import Derived.Test.YtmibohdppgijhaaVotL
import Derived.Test.YtmibohdppgijhaaVotA
namespace Go.Proofs.Ytmibohdppgijhaa
open Go.ChangeShapes Go.WideShapes Go.ChangeAt Go.RowKit

theorem rmay_any (s : Int) (w : World) : Calls Try.prog 15 #[.int .i64 s] w fun e w' => e = .returned (.bool (mayV s)) ∧ w = w' := by
  unfold mayV
  by_cases a : 0 ≤ s
  · simp only [a, decide_true, Bool.true_and]
    go_enter Try.func15, Try.ntmps15
    go_wp2
    go_ret
    exact ⟨rfl, rfl⟩
  · simp only [a, decide_false, Bool.false_and]
    go_enter Try.func15, Try.ntmps15
    go_wp2
    go_ret
    exact ⟨rfl, rfl⟩
theorem rfin_any (s : Int) (w : World) : Calls Try.prog 17 #[.int .i64 s] w fun e w' => e = .returned (.bool (finV s)) ∧ w = w' := by
  unfold finV
  by_cases a : 2 ≤ s
  · simp only [a, decide_true, Bool.true_and]
    go_enter Try.func17, Try.ntmps17
    go_wp2
    go_ret
    exact ⟨rfl, rfl⟩
  · simp only [a, decide_false, Bool.false_and]
    go_enter Try.func17, Try.ntmps17
    go_wp2
    go_ret
    exact ⟨rfl, rfl⟩
theorem rdec_any (s : Int) (w : World) : Calls Try.prog 13 #[.int .i64 s] w fun e w' => e = .returned (.tuple #[.bool (yesV s), .bool (finV s)]) ∧ w = w' := by
  by_cases a : s = 2
  · subst a
    go_enter Try.func13, Try.ntmps13
    go_wp2_with (go_at_call 17; refine (rfin_any _ _).mono ?_; rintro e u ⟨rfl, rfl⟩)
    go_ret2
    exact ⟨rfl, rfl⟩
  · have e : yesV s = (s == 4) := by unfold yesV; simp [a]; rfl
    rw [e]
    have qa : (s == 2) = false := by simp [a]
    clear e a
    go_enter Try.func13, Try.ntmps13
    go_wp2_with (go_at_call 17; refine (rfin_any _ _).mono ?_; rintro e u ⟨rfl, rfl⟩)
    go_ret2
    exact ⟨rfl, rfl⟩
theorem may_in {s : Int} (h : mayV s = true) : s = 0 ∨ s = 1 ∨ s = 2 ∨ s = 3 ∨ s = 4 ∨ s = 5 := by unfold mayV at h; simp at h; omega
theorem may_out {s : Int} (h : mayV s = false) : s < 0 ∨ 5 < s := by unfold mayV at h; simp at h; omega
theorem nm_out {s : Int} (h : s < 0 ∨ 5 < s) : nmV s = ByteArray.empty := by unfold nmV; rw [if_neg, if_neg, if_neg, if_neg, if_neg, if_neg] <;> omega
theorem idxn0 (W : World) : (Instr.index 42 (.agg #[.string ⟨#[110, 111, 110, 101]⟩, .string ⟨#[114, 101, 97, 100, 121]⟩, .string ⟨#[121, 101, 115]⟩, .string ⟨#[110, 111]⟩, .string ⟨#[102, 111, 114, 99, 101, 100, 32, 121, 101, 115]⟩, .string ⟨#[102, 111, 114, 99, 101, 100, 32, 110, 111]⟩]) (.int .i64 0)).run Try.prog W = .ok (.string ⟨#[110, 111, 110, 101]⟩) W := by kernel_rfl
theorem idxn1 (W : World) : (Instr.index 42 (.agg #[.string ⟨#[110, 111, 110, 101]⟩, .string ⟨#[114, 101, 97, 100, 121]⟩, .string ⟨#[121, 101, 115]⟩, .string ⟨#[110, 111]⟩, .string ⟨#[102, 111, 114, 99, 101, 100, 32, 121, 101, 115]⟩, .string ⟨#[102, 111, 114, 99, 101, 100, 32, 110, 111]⟩]) (.int .i64 1)).run Try.prog W = .ok (.string ⟨#[114, 101, 97, 100, 121]⟩) W := by kernel_rfl
theorem idxn2 (W : World) : (Instr.index 42 (.agg #[.string ⟨#[110, 111, 110, 101]⟩, .string ⟨#[114, 101, 97, 100, 121]⟩, .string ⟨#[121, 101, 115]⟩, .string ⟨#[110, 111]⟩, .string ⟨#[102, 111, 114, 99, 101, 100, 32, 121, 101, 115]⟩, .string ⟨#[102, 111, 114, 99, 101, 100, 32, 110, 111]⟩]) (.int .i64 2)).run Try.prog W = .ok (.string ⟨#[121, 101, 115]⟩) W := by kernel_rfl
theorem idxn3 (W : World) : (Instr.index 42 (.agg #[.string ⟨#[110, 111, 110, 101]⟩, .string ⟨#[114, 101, 97, 100, 121]⟩, .string ⟨#[121, 101, 115]⟩, .string ⟨#[110, 111]⟩, .string ⟨#[102, 111, 114, 99, 101, 100, 32, 121, 101, 115]⟩, .string ⟨#[102, 111, 114, 99, 101, 100, 32, 110, 111]⟩]) (.int .i64 3)).run Try.prog W = .ok (.string ⟨#[110, 111]⟩) W := by kernel_rfl
theorem idxn4 (W : World) : (Instr.index 42 (.agg #[.string ⟨#[110, 111, 110, 101]⟩, .string ⟨#[114, 101, 97, 100, 121]⟩, .string ⟨#[121, 101, 115]⟩, .string ⟨#[110, 111]⟩, .string ⟨#[102, 111, 114, 99, 101, 100, 32, 121, 101, 115]⟩, .string ⟨#[102, 111, 114, 99, 101, 100, 32, 110, 111]⟩]) (.int .i64 4)).run Try.prog W = .ok (.string ⟨#[102, 111, 114, 99, 101, 100, 32, 121, 101, 115]⟩) W := by kernel_rfl
theorem idxn5 (W : World) : (Instr.index 42 (.agg #[.string ⟨#[110, 111, 110, 101]⟩, .string ⟨#[114, 101, 97, 100, 121]⟩, .string ⟨#[121, 101, 115]⟩, .string ⟨#[110, 111]⟩, .string ⟨#[102, 111, 114, 99, 101, 100, 32, 121, 101, 115]⟩, .string ⟨#[102, 111, 114, 99, 101, 100, 32, 110, 111]⟩]) (.int .i64 5)).run Try.prog W = .ok (.string ⟨#[102, 111, 114, 99, 101, 100, 32, 110, 111]⟩) W := by kernel_rfl
theorem rname_any (s : Int) (w : World) : Calls Try.prog 19 #[.int .i64 s] w fun e w' => e = .returned (.string (nmV s)) ∧ w = w' := by
  cases hm : mayV s
  · rw [nm_out (may_out hm)]
    have CM := rmay_any s w
    rw [hm] at CM
    clear hm
    go_enter Try.func19, Try.ntmps19
    go_wp2_with (go_at_call 15; refine CM.mono ?_; rintro e u ⟨rfl, rfl⟩)
    go_ret
    exact ⟨rfl, rfl⟩
  · rcases may_in hm with rfl | rfl | rfl | rfl | rfl | rfl
    all_goals
      have h0 := idxn0
      have h1 := idxn1
      have h2 := idxn2
      have h3 := idxn3
      have h4 := idxn4
      have h5 := idxn5
      go_enter Try.func19, Try.ntmps19
      go_wp2_with (go_at_call 15; refine (rmay_any _ _).mono ?_; rintro e u ⟨rfl, rfl⟩)
      go_ret
      exact ⟨rfl, rfl⟩
set_option maxHeartbeats 8000000 in
theorem rnext_at {m : Int} (s : Int) (c : Bool) (w : World) (hs : s = 0 ∨ s = 1 ∨ s = 2 ∨ s = 3 ∨ s = 4 ∨ s = 5) (hm : m = 6 ∨ m = 9 ∨ m = 13 ∨ m = 10 ∨ m = 14 ∨ m = 12) :
    Calls Try.prog 11 #[.int .i64 s, .int .i64 m, .bool c] w fun e w' => e = .returned (.tuple #[.int .i64 (nxS s (mnt m) c), .int .i64 (nxK s (mnt m) c)]) ∧ w = w' := by
  rcases hs with rfl | rfl | rfl | rfl | rfl | rfl <;> rcases hm with rfl | rfl | rfl | rfl | rfl | rfl <;> cases c
  all_goals
    go_enter Try.func11, Try.ntmps11
    go_wp2_with (go_at_call 15; refine (rmay_any _ _).mono ?_; rintro e u ⟨rfl, rfl⟩)
    go_ret2
    exact ⟨rfl, rfl⟩
theorem mnt_no {k : Int} (h : k ≠ 6 ∧ k ≠ 9 ∧ k ≠ 13 ∧ k ≠ 10 ∧ k ≠ 14 ∧ k ≠ 12) : mnt k ≠ 6 ∧ mnt k ≠ 9 ∧ mnt k ≠ 10 ∧ mnt k ≠ 12 := by
  unfold mnt
  rw [if_neg (by omega), if_neg (by omega)]
  omega
set_option maxHeartbeats 2000000 in
theorem rnext_any (s k : Int) (c : Bool) (w : World) : Calls Try.prog 11 #[.int .i64 s, .int .i64 k, .bool c] w fun e w' => e = .returned (.tuple #[.int .i64 (nxS s (mnt k) c), .int .i64 (nxK s (mnt k) c)]) ∧ w = w' := by
  have CM := rmay_any s w
  cases hm : mayV s
  · rw [(nx_out (may_out hm)).1, (nx_out (may_out hm)).2]
    rw [hm] at CM
    clear hm
    go_enter Try.func11, Try.ntmps11
    go_wp2_with (go_at_call 15; refine CM.mono ?_; rintro e u ⟨rfl, rfl⟩)
    go_ret2
    exact ⟨rfl, rfl⟩
  by_cases hq : k ≠ 6 ∧ k ≠ 9 ∧ k ≠ 13 ∧ k ≠ 10 ∧ k ≠ 14 ∧ k ≠ 12
  · rw [(nx_no (mnt_no hq)).1, (nx_no (mnt_no hq)).2]
    rw [hm] at CM
    have q0 : (k == 6) = false := by simp; omega
    have q1 : (k == 9) = false := by simp; omega
    have q2 : (k == 10) = false := by simp; omega
    have q3 : (k == 12) = false := by simp; omega
    have q4 : (k == 13) = false := by simp; omega
    have q5 : (k == 14) = false := by simp; omega
    clear hm hq
    go_enter Try.func11, Try.ntmps11
    go_wp2_with (go_at_call 15; refine CM.mono ?_; rintro e u ⟨rfl, rfl⟩)
    go_ret2
    exact ⟨rfl, rfl⟩
  exact rnext_at s c w (may_in hm) (by omega)
set_option maxHeartbeats 2000000 in
theorem rlegal_any (a : Option Addr) (l : List Int) (c : Nat) (w : World) (hl : l.length ≤ 4611686018427387904) (ha : Ints w a l) :
    Calls Try.prog 21 #[.slice a l.length c] w fun e w' => e = .returned (.int .i64 (legV l : Int)) ∧ w = w' := by
  have HC := hide ha
  clear ha
  go_enter Try.func21, Try.ntmps21
  go_wp2
  go_loopw [8] (fun i wr => ∃ k : Nat, k ≤ l.length ∧ i = .int .i64 k ∧ Hid (k = 0 ∨ legV l = legGo (l.getD (k - 1) 0) (l.drop k) + k) ∧ wr = w) (fun i _ => l.length - (intOf i).toNat)
  case atStart => exact ⟨0, Nat.zero_le _, rfl, .inl rfl, rfl⟩
  case round =>
    obtain ⟨k, hk, rfl, HV, hw⟩ := hrel
    subst hw
    by_cases hlt : k < l.length
    · rcases HC.out with ha | ⟨b, off, rfl, hcell⟩
      · rw [ha] at hlt; simp at hlt
      have h1 := hcell k hlt
      obtain ⟨y, hy⟩ : ∃ y, l.getD k 0 = y := ⟨_, rfl⟩
      rw [hy] at h1
      by_cases h0 : k = 0
      · subst h0
        simp only [Nat.add_zero] at h1
        by_cases hz : y = 0
        · subst hz
          have HE : Hid (0 + 1 = 0 ∨ legV l = legGo (l.getD (0 + 1 - 1) 0) (l.drop (0 + 1)) + (0 + 1)) := .inr (legV_at hlt hy)
          clear hy hcell HV
          go_wp2
          go_roundw
          case rel => exact ⟨1, by omega, by go_num, HE, by trivial⟩
          case measure => simp [intOf]; omega
        · have qz : (y != 0) = true := by simpa using hz
          have HE := hide (legV_first hlt (by rw [hy]; exact hz)).symm
          clear hy hcell HV hz
          go_wp2
          go_ret
          exact ⟨ret_nat HE.out, rfl⟩
      · have h2 := hcell (k - 1) (by omega)
        obtain ⟨x, hx⟩ : ∃ x, l.getD (k - 1) 0 = x := ⟨_, rfl⟩
        rw [hx] at h2
        have q0 : ((k : Int) == 0) = false := by simp only [beq_eq_false_iff_ne]; omega
        have hv := HV.out.resolve_left h0
        have key : (folV x y = true → Hid (k + 1 = 0 ∨ legV l = legGo (l.getD (k + 1 - 1) 0) (l.drop (k + 1)) + (k + 1))) ∧ (folV x y = false → Hid (k = legV l)) := by
          refine ⟨fun hf => .inr ?_, fun hf => ?_⟩
          · rw [hv, leg_on hlt (by rw [hx, hy]; exact hf), Nat.add_sub_cancel]; omega
          · show k = legV l
            rw [hv, leg_off hlt (by rw [hx, hy]; exact hf)]; omega
        obtain ⟨k1, k2⟩ := key
        clear hv HV hcell hx hy
        have CF := rfin_any y wr
        by_cases e1 : y = x
        · subst e1
          have HE := k1 (by unfold folV; simp)
          have qx : (y != y) = false := by simp
          clear k1 k2 CF
          go_wp2
          go_roundw
          case rel => exact ⟨k + 1, by omega, by go_num, HE, by trivial⟩
          case measure => simp [intOf]; omega
        have qx : (y != x) = true := by simpa using e1
        by_cases e2 : x = 0
        · subst e2
          by_cases e3 : y = 1
          · subst e3
            have HE := k1 (by decide)
            clear k1 k2 CF e1
            go_wp2
            go_roundw
            case rel => exact ⟨k + 1, by omega, by go_num, HE, by trivial⟩
            case measure => simp [intOf]; omega
          have q3 : (y == 1) = false := by simpa using e3
          by_cases e4 : y = 3
          · subst e4
            have HE := k1 (by decide)
            clear k1 k2 CF e1
            go_wp2
            go_roundw
            case rel => exact ⟨k + 1, by omega, by go_num, HE, by trivial⟩
            case measure => simp [intOf]; omega
          have q4 : (y == 3) = false := by simpa using e4
          have HE := k2 (by unfold folV; simp; omega)
          clear k1 k2 CF e1 e3 e4
          go_wp2
          go_ret
          exact ⟨ret_nat HE.out, rfl⟩
        have q2 : (x == 0) = false := by simpa using e2
        by_cases e5 : x = 1
        · subst e5
          cases hf : finV y
          · rw [hf] at CF
            have HE := k2 (by unfold folV; unfold finV at hf; simp at hf ⊢; omega)
            clear k1 k2 hf e1 e2
            go_wp2_with (go_at_call 17; refine CF.mono ?_; rintro e u ⟨rfl, rfl⟩)
            go_ret
            exact ⟨ret_nat HE.out, rfl⟩
          · rw [hf] at CF
            have HE := k1 (by unfold folV; unfold finV at hf; simp at hf ⊢; omega)
            clear k1 k2 hf e1 e2
            go_wp2_with (go_at_call 17; refine CF.mono ?_; rintro e u ⟨rfl, rfl⟩)
            go_roundw
            case rel => exact ⟨k + 1, by omega, by go_num, HE, by trivial⟩
            case measure => simp [intOf]; omega
        have q5 : (x == 1) = false := by simpa using e5
        have HE := k2 (by unfold folV; simp; omega)
        clear k1 k2 CF e1 e2 e5
        go_wp2
        go_ret
        exact ⟨ret_nat HE.out, rfl⟩
    · have HE : Hid (l.length = legV l) := by
        show l.length = legV l
        rcases HV.out with h | h
        · rw [legV_nil (by omega)]; omega
        · rw [h, leg_end (by omega)]; omega
      clear HV
      go_wp2
      go_ret
      exact ⟨ret_nat HE.out, rfl⟩
end Go.Proofs.Ytmibohdppgijhaa
