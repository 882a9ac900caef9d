/-
  ForceBlame's walk.
-/
import Derived.Test.YtlhfkomnmfkeaaaFrcA
import Derived.Test.YtlhfkomnmfkeaaaFrcR
namespace Go.Proofs.Ytlhfkomnmfkeaaa
open Go.ChangeShapes Go.WideShapes Go.ChangeAt Go.RowKit

def fcV (s : Int) : Bool := s == 4 || s == 5
def cntK (f : Int → Bool) (l : List Int) (k : Nat) : Nat := (l.take k).countP f
theorem cntK_on {f : Int → Bool} {l : List Int} {k : Nat} (hk : k < l.length) (h : f (l.getD k 0) = true) : cntK f l (k + 1) = cntK f l k + 1 := by
  unfold cntK; rw [take_snoc hk, List.countP_append, List.countP_cons, h]; simp
theorem cntK_off {f : Int → Bool} {l : List Int} {k : Nat} (hk : k < l.length) (h : f (l.getD k 0) = false) : cntK f l (k + 1) = cntK f l k := by
  unfold cntK; rw [take_snoc hk, List.countP_append, List.countP_cons, h]; simp
theorem cntK_le (f : Int → Bool) (l : List Int) (k : Nat) : cntK f l k ≤ k := by
  unfold cntK; exact Nat.le_trans (List.countP_le_length ..) (by simp; omega)
theorem cntK_all {f : Int → Bool} {l : List Int} {k : Nat} (hk : l.length ≤ k) (h : ∃ s ∈ l, f s = true) : 0 < cntK f l k := by
  unfold cntK; rw [List.take_of_length_le hk]; exact List.countP_pos_iff.2 h
theorem cntK_some {f : Int → Bool} {l : List Int} {k : Nat} (h : 0 < cntK f l k) : ∃ s ∈ l, f s = true := by
  unfold cntK at h
  obtain ⟨s, hs, e⟩ := List.countP_pos_iff.1 h
  exact ⟨s, List.mem_of_mem_take hs, e⟩
set_option maxHeartbeats 4000000 in
theorem forceBlame_walk (a0 : Option Addr) (len0 cap0 : Nat) (z0 : List Int) (a1 : Bool) (w : World) (w0 : IsRow .i64 w a0 len0 cap0 z0) :
    Calls Try.prog 4 #[.slice a0 len0 cap0, .bool a1] w fun e w' => e = .returned (.bool true) ∧ Below w.heap.size w w' := by
  obtain ⟨l, rfl, hl9, hi⟩ := w0.ints
  clear w0
  by_cases hbig : 60 < l.length
  · clear hi
    go_enter Try.func4, Try.ntmps4
    go_wp2_with (go_at_call 7; refine (fawake_any _).mono ?_; rintro e u ⟨rfl, hb⟩)
    go_ret
    exact ⟨rfl, hb⟩
  have S0 := hide (rsafe_any a0 l cap0 w (by omega) hi)
  have E0 := hide (fev_any a0 l cap0 w (by omega) hi)
  have W0 := hide (fwh_any a0 l cap0 a1 w (by omega) hi)
  have HI := hide hi
  have HA : Hid (safV l = true → evV l = false → ∃ s ∈ l, fcV s = true) := fun h1 h2 => by
    obtain ⟨s, hs, e⟩ := blame h1 h2
    exact ⟨s, hs, by unfold fcV; rcases e with rfl | rfl <;> rfl⟩
  have HC : Hid (safV l = true → evV l = false → ∀ k, 0 < cntK (withV a1) l k → 0 < (whV l a1 l.length).length) := fun h1 h2 k h3 => by
    obtain ⟨s, hs, e⟩ := cntK_some h3
    obtain ⟨j, hj, hd⟩ := blamed h1 h2 hs e
    exact wh_pos hj hd
  obtain ⟨s0, hs0⟩ : ∃ s, safV l = s := ⟨_, rfl⟩
  obtain ⟨v0, hv0⟩ : ∃ s, evV l = s := ⟨_, rfl⟩
  rw [hs0] at S0 HA HC
  rw [hv0] at E0 HA HC
  clear hs0 hv0 hi hl9
  cases s0
  · go_enter Try.func4, Try.ntmps4
    go_wp2_with (first
      | (go_at_call 17; refine S0.out.mono ?_; rintro e u ⟨rfl, rfl⟩)
      | (go_at_call 7; refine (fawake_any _).mono ?_; rintro e u ⟨rfl, hb⟩))
    go_ret
    exact ⟨rfl, hb⟩
  cases v0
  case true =>
    go_enter Try.func4, Try.ntmps4
    go_wp2_with (first
      | (go_at_call 17; refine S0.out.mono ?_; rintro e u ⟨rfl, rfl⟩)
      | (go_at_call 15; refine E0.out.mono ?_; rintro e u ⟨rfl, rfl⟩)
      | (go_at_call 7; refine (fawake_any _).mono ?_; rintro e u ⟨rfl, hb⟩))
    go_ret
    exact ⟨rfl, hb⟩
  have HA2 := hide (HA.out rfl rfl)
  have HC2 := hide (HC.out rfl rfl)
  clear HA HC
  go_enter Try.func4, Try.ntmps4
  go_wp2_with (first
    | (go_at_call 17; refine S0.out.mono ?_; rintro e u ⟨rfl, rfl⟩)
    | (go_at_call 15; refine E0.out.mono ?_; rintro e u ⟨rfl, rfl⟩))
  clear S0 E0
  go_loopw [5, 25] (fun fv i wr => ∃ (j : Nat), fv = .int .i64 (cntK fcV l j : Nat) ∧ i = .int .i64 j ∧ j ≤ l.length ∧ wr = w) (fun _ i _ => l.length - (intOf i).toNat)
  case atStart => exact ⟨0, rfl, rfl, Nat.zero_le _, rfl⟩
  case round =>
    obtain ⟨j, rfl, rfl, hj, hw⟩ := hrel
    subst hw
    have hc := cntK_le fcV l j
    by_cases hlt : j < l.length
    · have ql : (j : Int) < (l.length : Int) := by omega
      rcases HI.out with h0 | ⟨bi, oi, rfl, hci⟩
      · subst h0; simp at hlt
      have c0 := hci j hlt
      obtain ⟨s, hs⟩ : ∃ s, l.getD j 0 = s := ⟨_, rfl⟩
      have F1 := fun h => cntK_on (f := fcV) hlt h
      have F2 := fun h => cntK_off (f := fcV) hlt h
      rw [hs] at c0 F1 F2
      obtain ⟨c, hcc⟩ : ∃ c, cntK fcV l j = c := ⟨_, rfl⟩
      rw [hcc] at F1 F2 hc ⊢
      clear hs hci hcc
      by_cases h4 : s = 4
      · subst h4
        have HE := hide (F1 rfl)
        clear F1 F2
        go_wp2
        go_roundw
        case rel => exact ⟨j + 1, by rw [HE.out]; go_num, by go_num, by omega, by trivial⟩
        case measure => simp [intOf]; omega
      by_cases h5 : s = 5
      · subst h5
        have HE := hide (F1 rfl)
        clear F1 F2
        go_wp2
        go_roundw
        case rel => exact ⟨j + 1, by rw [HE.out]; go_num, by go_num, by omega, by trivial⟩
        case measure => simp [intOf]; omega
      have q4 : (s == 4) = false := by simpa using h4
      have q5 : (s == 5) = false := by simpa using h5
      have HE := hide (F2 (by unfold fcV; rw [q4, q5]; rfl))
      clear F1 F2 h4 h5
      go_wp2
      go_roundw
      case rel => exact ⟨j + 1, by rw [HE.out], by go_num, by omega, by trivial⟩
      case measure => simp [intOf]; omega
    · have ql : ¬ (j : Int) < (l.length : Int) := by omega
      have hpos : 0 < cntK fcV l j := cntK_all (by omega) HA2.out
      obtain ⟨c, hcc⟩ : ∃ c, cntK fcV l j = c := ⟨_, rfl⟩
      rw [hcc] at hpos hc ⊢
      have qc : (0 : Int) < (c : Int) := by omega
      clear hcc
      go_wp2
      go_loopw [8, 40] (fun fv i wq => ∃ (k : Nat), fv = .int .i64 (cntK (withV a1) l k : Nat) ∧ i = .int .i64 k ∧ k ≤ l.length ∧ wq = wr) (fun _ i _ => l.length - (intOf i).toNat)
      case atStart => exact ⟨0, rfl, rfl, Nat.zero_le _, rfl⟩
      case round =>
        obtain ⟨k, rfl, rfl, hk, hw⟩ := hrel
        subst hw
        have hd := cntK_le (withV a1) l k
        by_cases hlk : k < l.length
        · have qk : (k : Int) < (l.length : Int) := by omega
          rcases HI.out with h0 | ⟨bi, oi, rfl, hci⟩
          · subst h0; simp at hlk
          have c0 := hci k hlk
          obtain ⟨s, hs⟩ : ∃ s, l.getD k 0 = s := ⟨_, rfl⟩
          have F1 := fun h => cntK_on (f := withV a1) hlk h
          have F2 := fun h => cntK_off (f := withV a1) hlk h
          rw [hs] at c0 F1 F2
          obtain ⟨d, hdd⟩ : ∃ d, cntK (withV a1) l k = d := ⟨_, rfl⟩
          rw [hdd] at F1 F2 hd ⊢
          clear hs hci hdd
          by_cases h2 : s = 2
          · subst h2
            cases a1
            · have HE := hide (F2 rfl)
              clear F1 F2
              go_wp2
              go_roundw
              case rel => exact ⟨k + 1, by rw [HE.out], by go_num, by omega, by trivial⟩
              case measure => simp [intOf]; omega
            · have HE := hide (F1 rfl)
              clear F1 F2
              go_wp2
              go_roundw
              case rel => exact ⟨k + 1, by rw [HE.out]; go_num, by go_num, by omega, by trivial⟩
              case measure => simp [intOf]; omega
          by_cases h3 : s = 3
          · subst h3
            cases a1
            · have HE := hide (F1 rfl)
              clear F1 F2
              go_wp2
              go_roundw
              case rel => exact ⟨k + 1, by rw [HE.out]; go_num, by go_num, by omega, by trivial⟩
              case measure => simp [intOf]; omega
            · have HE := hide (F2 rfl)
              clear F1 F2
              go_wp2
              go_roundw
              case rel => exact ⟨k + 1, by rw [HE.out], by go_num, by omega, by trivial⟩
              case measure => simp [intOf]; omega
          have q2 : (s == 2) = false := by simpa using h2
          have q3 : (s == 3) = false := by simpa using h3
          have HE := hide (F2 (by unfold withV; rw [q2, q3]; rfl))
          clear F1 F2 h2 h3
          go_wp2
          go_roundw
          case rel => exact ⟨k + 1, by rw [HE.out], by go_num, by omega, by trivial⟩
          case measure => simp [intOf]; omega
        · have qk : ¬ (k : Int) < (l.length : Int) := by omega
          have HP := HC2.out k
          obtain ⟨d, hdd⟩ : ∃ d, cntK (withV a1) l k = d := ⟨_, rfl⟩
          rw [hdd] at hd HP ⊢
          clear hdd
          obtain ⟨P, hP⟩ : ∃ P, whV l a1 l.length = P := ⟨_, rfl⟩
          rw [hP] at W0 HP
          clear hP HA2 HC2
          by_cases d0 : d = 0
          · subst d0
            clear HP
            go_wp2_with (go_at_call 7; refine (fawake_any _).mono ?_; rintro e u ⟨rfl, hb⟩; have HE := hide hb; clear hb)
            go_ret
            exact ⟨rfl, HE.out⟩
          · have qp := HP (by omega)
            have qq : (0 : Int) < (P.length : Int) := by omega
            have qd : ((d : Int) == 0) = false := by simp only [beq_eq_false_iff_ne]; omega
            clear HP d0
            go_wp2_with (first
              | (go_at_call 13; refine W0.out.mono ?_; rintro e u1 ⟨b1, d1, rfl, i1, hb1⟩; have HB1 := hide hb1; clear i1 hb1)
              | (go_at_call 7; refine (fawake_any _).mono ?_; rintro e u ⟨rfl, hb⟩; have HE := hide (bel_on' HB1.out hb); clear hb))
            go_ret
            exact ⟨rfl, HE.out⟩
end Go.Proofs.Ytlhfkomnmfkeaaa
