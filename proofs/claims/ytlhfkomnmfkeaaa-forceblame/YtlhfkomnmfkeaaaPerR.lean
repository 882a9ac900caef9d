/-
  The reference's Tells, Decide, Safe.
-/
import Derived.Test.YtlhfkomnmfkeaaaPerM
import Derived.Test.YtlhfkomnmfkeaaaVotS
import Derived.Test.YtlhfkomnmfkeaaaInts
namespace Go.Proofs.Ytlhfkomnmfkeaaa
open Go.ChangeShapes Go.WideShapes Go.ChangeAt Go.RowKit

theorem rmayp_any (s : Int) (w : World) : Calls Try.prog 20 #[.int .i64 s] w fun e w' => e = .returned (.bool (mayV s)) ∧ w = w' := by
  unfold mayV
  by_cases a : 0 ≤ s
  · simp only [a, decide_true, Bool.true_and]
    go_enter Try.func20, Try.ntmps20
    go_wp2
    go_ret
    exact ⟨rfl, rfl⟩
  · simp only [a, decide_false, Bool.false_and]
    go_enter Try.func20, Try.ntmps20
    go_wp2
    go_ret
    exact ⟨rfl, rfl⟩
theorem rtell_any (s : Int) (w : World) : Calls Try.prog 23 #[.int .i64 s] w fun e w' => e = .returned (.int .i64 (telV s)) ∧ w = w' := by
  by_cases a : s = 2
  · subst a
    go_enter Try.func23, Try.ntmps23
    go_wp2
    go_ret
    exact ⟨rfl, rfl⟩
  by_cases b : s = 0
  · subst b
    go_enter Try.func23, Try.ntmps23
    go_wp2
    go_ret
    exact ⟨rfl, rfl⟩
  by_cases c : s = 3
  · subst c
    go_enter Try.func23, Try.ntmps23
    go_wp2
    go_ret
    exact ⟨rfl, rfl⟩
  have e : telV s = 0 := by unfold telV; rw [if_neg a, if_neg b, if_neg c]
  rw [e]
  have qa : (s == 2) = false := by simpa using a
  have qb : (s == 0) = false := by simpa using b
  have qc : (s == 3) = false := by simpa using c
  clear a b c e
  go_enter Try.func23, Try.ntmps23
  go_wp2
  go_ret
  exact ⟨rfl, rfl⟩
/-- What the loop holds: who tells what of the first k, all of which may be. -/
structure RfS (l : List Int) (k : Nat) (y n : Bool) : Prop where
  may : ∀ s ∈ l.take k, mayV s = true
  yes : hasV 13 (l.take k) = y
  no : hasV 14 (l.take k) = n
theorem RfS.more {l : List Int} {k : Nat} {y n : Bool} (h : RfS l k y n) (hk : k < l.length) (hm : mayV (l.getD k 0) = true) : RfS l (k + 1) (y || telV (l.getD k 0) == 13) (n || telV (l.getD k 0) == 14) := by
  refine ⟨fun s hs => ?_, ?_, ?_⟩
  · rw [take_snoc hk, List.mem_append] at hs
    rcases hs with hs | hs
    · exact h.may s hs
    · rw [List.mem_singleton] at hs; rw [hs]; exact hm
  · rw [take_snoc hk, has_app, h.yes]; congr 1; unfold hasV; simp
  · rw [take_snoc hk, has_app, h.no]; congr 1; unfold hasV; simp
theorem RfS.done {l : List Int} {k : Nat} {y n : Bool} (h : RfS l k y n) (hk : l.length ≤ k) : safV l = (!y || !n) := by
  obtain ⟨a, b, c⟩ := h
  rw [List.take_of_length_le hk] at a b c
  rw [saf_ref a, b, c]
set_option maxHeartbeats 4000000 in
theorem rsafe_any (a : Option Addr) (l : List Int) (c : Nat) (w : World) (hl : l.length ≤ 4611686018427387904) (ha : Ints w a l) :
    Calls Try.prog 17 #[.slice a l.length c] w fun e w' => e = .returned (.bool (safV l)) ∧ w = w' := by
  have HA := hide ha
  clear ha
  go_enter Try.func17, Try.ntmps17
  go_wp2
  go_loopw [3, 4, 9] (fun yv nv iv wr => ∃ (k : Nat) (y n : Bool), yv = .bool y ∧ nv = .bool n ∧ iv = .int .i64 k ∧ k ≤ l.length ∧ Hid (RfS l k y n) ∧ wr = w) (fun _ _ iv _ => l.length - (intOf iv).toNat)
  case atStart => exact ⟨0, false, false, rfl, rfl, rfl, Nat.zero_le _, ⟨by simp, rfl, rfl⟩, rfl⟩
  case round =>
    obtain ⟨k, y, n, rfl, rfl, rfl, hk, HV, hw⟩ := hrel
    subst hw
    by_cases hlt : k < l.length
    · have ql : (k : Int) < (l.length : Int) := by omega
      rcases HA.out with h0 | ⟨bi, oi, rfl, hci⟩
      · subst h0; simp at hlt
      have c0 := hci k hlt
      obtain ⟨s, hs⟩ : ∃ s, l.getD k 0 = s := ⟨_, rfl⟩
      have F1 := fun h => HV.out.more hlt h
      have F2 := fun h => saf_out (l := l) (s := l.getD k 0) (by simp [List.getD, hlt]) h
      rw [hs] at c0 F1 F2
      have CT := fun u => rtell_any s u
      have CM := rmayp_any s wr
      obtain ⟨t, ht⟩ : ∃ t, telV s = t := ⟨_, rfl⟩
      obtain ⟨m, hm⟩ : ∃ m, mayV s = m := ⟨_, rfl⟩
      have tc := tel_cases s
      rw [ht] at F1 tc CT
      rw [hm] at F1 F2 CM
      clear ht hm hs hci HV
      cases m
      · have HE := hide (F2 rfl).symm
        clear F1 F2 CT tc
        go_wp2_with (go_at_call 20; refine CM.mono ?_; rintro e u ⟨rfl, rfl⟩)
        go_ret
        exact ⟨ret_bool HE.out, rfl⟩
      · have HE := F1 rfl
        clear F1 F2
        rcases tc with rfl | rfl | rfl <;> cases y <;> cases n
        all_goals
          have HF := hide HE
          clear HE
          go_wp2_with (first
            | (go_at_call 20; refine CM.mono ?_; rintro e u ⟨rfl, rfl⟩)
            | (go_at_call 23; refine (CT _).mono ?_; rintro e u ⟨rfl, rfl⟩))
          go_roundw
          case rel => exact ⟨k + 1, _, _, rfl, rfl, by go_num, by omega, HF, by trivial⟩
          case measure => simp [intOf]; omega
    · have ql : ¬ (k : Int) < (l.length : Int) := by omega
      have HE := hide (HV.out.done (by omega)).symm
      clear HV
      cases y <;> cases n
      all_goals
        go_wp2
        go_ret
        exact ⟨ret_bool HE.out, rfl⟩
end Go.Proofs.Ytlhfkomnmfkeaaa
