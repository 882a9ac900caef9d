/-
  The contracts of peers' Tells, Decide, Safe.
-/
import Derived.Test.YtlndiobkkmknnaaPerM
import Derived.Test.YtlndiobkkmknnaaVotS
import Derived.Test.YtlndiobkkmknnaaInts
namespace Go.Proofs.Ytlndiobkkmknnaa
open Go.ChangeShapes Go.WideShapes Go.ChangeAt Go.RowKit

theorem ptell_any (s : Int) (w : World) : Calls Try.prog 8 #[.int .i64 s] w fun e w' => e = .returned (.int .i64 (telV s)) ∧ w = w' := by
  by_cases a : s = 2
  · subst a
    go_enter Try.func8, Try.ntmps8
    go_wp2
    go_ret
    exact ⟨rfl, rfl⟩
  by_cases b : s = 0
  · subst b
    go_enter Try.func8, Try.ntmps8
    go_wp2
    go_ret
    exact ⟨rfl, rfl⟩
  by_cases c : s = 3
  · subst c
    go_enter Try.func8, Try.ntmps8
    go_wp2
    go_ret
    exact ⟨rfl, rfl⟩
  have e : telV s = 0 := by unfold telV; rw [if_neg a, if_neg b, if_neg c]
  rw [e]
  have qa : (s == 2) = false := by simpa using a
  have qb : (s == 0) = false := by simpa using b
  have qc : (s == 3) = false := by simpa using c
  clear a b c e
  go_enter Try.func8, Try.ntmps8
  go_wp2
  go_ret
  exact ⟨rfl, rfl⟩
set_option maxHeartbeats 2000000 in
theorem pdec_any (a : Option Addr) (l : List Int) (c : Nat) (w : World) (hl : l.length ≤ 4611686018427387904) (ha : Ints w a l) :
    Calls Try.prog 10 #[.slice a l.length c] w fun e w' => e = .returned (.int .i64 (decV l)) ∧ w = w' := by
  have HA := hide ha
  clear ha
  go_enter Try.func10, Try.ntmps10
  go_wp2_with fail
  go_step3
  go_wp2
  go_step3
  go_wp2
  go_loopw [3, 9] (fun dv iv wr => ∃ k : Nat, dv = .int .i64 0 ∧ iv = .int .i64 k ∧ k ≤ l.length ∧ Hid (decV (l.take k) = 0) ∧ wr = w) (fun _ iv _ => l.length - (intOf iv).toNat)
  case atStart => exact ⟨0, rfl, rfl, Nat.zero_le _, rfl, rfl⟩
  case round =>
    obtain ⟨k, rfl, rfl, hk, HV, hw⟩ := hrel
    subst hw
    by_cases hlt : k < l.length
    · have ql : (k : Int) < (l.length : Int) := by omega
      rcases HA.out with h0 | ⟨bi, oi, rfl, hci⟩
      · subst h0; simp at hlt
      have c0 := hci k hlt
      obtain ⟨s, hs⟩ : ∃ s, l.getD k 0 = s := ⟨_, rfl⟩
      have F1 := fun h => dec_on hlt HV.out h
      have F2 := fun h => dec_off hlt HV.out h
      rw [hs] at c0 F1 F2
      have CT := ptell_any s wr
      obtain ⟨t, ht⟩ : ∃ t, telV s = t := ⟨_, rfl⟩
      rcases tel_cases s with e | e | e
      · rw [e] at CT
        have HE := hide (F1 e)
        clear F1 F2 ht e hs hci HV
        go_wp2_with (go_at_call 8; refine CT.mono ?_; rintro e u ⟨rfl, rfl⟩)
        go_roundw
        case rel => exact ⟨k + 1, rfl, by go_num, by omega, HE, by trivial⟩
        case measure => simp [intOf]; omega
      · rw [e] at CT
        have HE := hide ((F2 (by omega)).trans e).symm
        clear F1 F2 ht e hs hci HV
        go_wp2_with (go_at_call 8; refine CT.mono ?_; rintro e u ⟨rfl, rfl⟩)
        rw [Exit.noGoto_ret]
        go_ret
        exact ⟨ret_int HE.out, rfl⟩
      · rw [e] at CT
        have HE := hide ((F2 (by omega)).trans e).symm
        clear F1 F2 ht e hs hci HV
        go_wp2_with (go_at_call 8; refine CT.mono ?_; rintro e u ⟨rfl, rfl⟩)
        rw [Exit.noGoto_ret]
        go_ret
        exact ⟨ret_int HE.out, rfl⟩
    · have ql : ¬ (k : Int) < (l.length : Int) := by omega
      have HE := hide (dec_end (by omega) HV.out).symm
      clear HV
      go_wp2
      go_ret
      exact ⟨ret_int HE.out, rfl⟩
set_option maxHeartbeats 2000000 in
theorem psafe_any (a : Option Addr) (l : List Int) (c : Nat) (w : World) (hl : l.length ≤ 4611686018427387904) (ha : Ints w a l) :
    Calls Try.prog 12 #[.slice a l.length c] w fun e w' => e = .returned (.bool (safV l)) ∧ w = w' := by
  have HA := hide ha
  have CD := pdec_any a l c w hl ha
  obtain ⟨d, hd⟩ : ∃ d, decV l = d := ⟨_, rfl⟩
  rw [hd] at CD
  have HD := hide hd
  clear ha hd
  go_enter Try.func12, Try.ntmps12
  go_wp2_with fail
  go_step3
  go_wp2_with (go_at_call 10; refine CD.mono ?_; rintro e u ⟨rfl, rfl⟩)
  go_step3
  go_wp2
  clear CD
  go_loopw [4, 12] (fun sv iv wr => ∃ k : Nat, sv = .bool true ∧ iv = .int .i64 k ∧ k ≤ l.length ∧ Hid ((l.take k).all (okV d) = true) ∧ wr = w) (fun _ iv _ => l.length - (intOf iv).toNat)
  case atStart => exact ⟨0, rfl, rfl, Nat.zero_le _, rfl, rfl⟩
  case round =>
    obtain ⟨k, rfl, rfl, hk, HV, hw⟩ := hrel
    subst hw
    by_cases hlt : k < l.length
    · have ql : (k : Int) < (l.length : Int) := by omega
      rcases HA.out with h0 | ⟨bi, oi, rfl, hci⟩
      · subst h0; simp at hlt
      have c0 := hci k hlt
      obtain ⟨s, hs⟩ : ∃ s, l.getD k 0 = s := ⟨_, rfl⟩
      have F1 := fun h => saf_on hlt HV.out h
      have F2 := fun h => saf_off hlt h
      rw [HD.out] at F2
      rw [hs] at c0 F1 F2
      have CT := ptell_any s wr
      have CM := vmay_any s wr
      unfold okV at F1 F2
      obtain ⟨t, ht⟩ : ∃ t, telV s = t := ⟨_, rfl⟩
      obtain ⟨m, hm⟩ : ∃ m, mayV s = m := ⟨_, rfl⟩
      rw [ht, hm] at F1 F2
      rw [ht] at CT
      rw [hm] at CM
      clear ht hm hs hci HV
      cases m
      · have HE := hide (F2 rfl).symm
        clear F1 F2
        go_wp2_with (first
          | (go_at_call 8; refine CT.mono ?_; rintro e u ⟨rfl, rfl⟩)
          | (go_at_call 14; refine CM.mono ?_; rintro e u ⟨rfl, rfl⟩))
        rw [Exit.noGoto_ret]
        go_ret
        exact ⟨ret_bool HE.out, rfl⟩
      · by_cases t0 : t = 0
        · subst t0
          have HE := hide (F1 rfl)
          clear F1 F2
          go_wp2_with (first
            | (go_at_call 8; refine CT.mono ?_; rintro e u ⟨rfl, rfl⟩)
            | (go_at_call 14; refine CM.mono ?_; rintro e u ⟨rfl, rfl⟩))
          go_roundw
          case rel => exact ⟨k + 1, rfl, by go_num, by omega, HE, by trivial⟩
          case measure => simp [intOf]; omega
        · have q0 : (t != 0) = true := by simpa using t0
          have q1 : (t == 0) = false := by simpa using t0
          by_cases td : t = d
          · subst td
            have qd : (t != t) = false := by simp
            have HE := hide (F1 (by simp))
            clear F1 F2 t0
            go_wp2_with (first
              | (go_at_call 8; refine CT.mono ?_; rintro e u ⟨rfl, rfl⟩)
              | (go_at_call 14; refine CM.mono ?_; rintro e u ⟨rfl, rfl⟩))
            go_roundw
            case rel => exact ⟨k + 1, rfl, by go_num, by omega, HE, by trivial⟩
            case measure => simp [intOf]; omega
          · have qd : (t != d) = true := by simpa using td
            have qe : (t == d) = false := by simpa using td
            have HE := hide (F2 (by rw [q1, qe]; rfl)).symm
            clear F1 F2 t0 td qe q1
            go_wp2_with (first
              | (go_at_call 8; refine CT.mono ?_; rintro e u ⟨rfl, rfl⟩)
              | (go_at_call 14; refine CM.mono ?_; rintro e u ⟨rfl, rfl⟩))
            rw [Exit.noGoto_ret]
            go_ret
            exact ⟨ret_bool HE.out, rfl⟩
    · have ql : ¬ (k : Int) < (l.length : Int) := by omega
      have HE : Hid (true = safV l) := by
        have := HV.out
        rw [← HD.out] at this
        exact (saf_end (by omega) this).symm
      clear HV
      go_wp2
      go_ret
      exact ⟨ret_bool HE.out, rfl⟩
end Go.Proofs.Ytlndiobkkmknnaa
