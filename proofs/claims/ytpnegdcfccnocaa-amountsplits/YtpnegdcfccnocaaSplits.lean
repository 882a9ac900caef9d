/-
  The walk of AmountSplits: it returns true, whatever the two numbers are, and turns nothing that was there.
-/
import Derived.Test.YtpnegdcfccnocaaSpl
import Derived.Test.YtpnegdcfccnocaaLater
namespace Go.Proofs.Ytpnegdcfccnocaa
open Go.ChangeShapes Go.WideShapes Go.ChangeAt Go.RowKit

theorem splitF_mono {a : Int} {n i j : Nat} (h : i ≤ j) : splitF a n j ≤ splitF a n i ∧ splitF a n i ≤ splitF a n j + 1 := by
  unfold splitF
  split <;> split <;> omega
theorem splitF_bd {a : Int} {n i : Nat} (h : 0 ≤ a) (h2 : a ≤ 1000000000) : 0 ≤ splitF a n i ∧ splitF a n i ≤ 1000000001 := by
  have h1 : 0 ≤ a / (n : Int) := Int.ediv_nonneg h (by omega)
  have h3 : a / (n : Int) ≤ a := Int.ediv_le_self _ h
  unfold splitF
  split <;> omega

set_option maxHeartbeats 1000000 in
theorem amountSplits_walk (a0 a1 : Int) (_w0 : (Lit.int .i64 a0).wf = true) (_w1 : (Lit.int .i64 a1).wf = true) (w : World) :
    Calls Try.prog 6 #[.int .i64 a0, .int .i64 a1] w fun e w' => e = .returned (.bool true) ∧ Below w.heap.size w w' := by
  by_cases h1 : 0 ≤ a0
  · by_cases h2 : a0 ≤ 1000000000
    · have hm : may a0 = true := may_iff.2 ⟨h1, h2⟩
      by_cases h3 : 1 ≤ a1
      · by_cases h4 : a1 ≤ 64
        · obtain ⟨n, rfl⟩ : ∃ n : Nat, a1 = n := ⟨a1.toNat, by omega⟩
          have n1 : 1 ≤ n := by omega
          have n2 : n ≤ 64 := by omega
          go_enter Try.func6, Try.ntmps6
          go_wp2_with (go_at_call 23; refine (split_yes _ _ _ hm n1 n2).mono ?_; rintro e w1 ⟨rfl, hrow, hb1⟩)
          go_loop [33] (fun i => ∃ k : Nat, k ≤ n ∧ i = .int .i64 k) (fun i => n - (intOf i).toNat)
          case atStart => exact ⟨0, Nat.zero_le _, rfl⟩
          case round =>
            obtain ⟨k, hk, rfl⟩ := hrel
            have hz := hrow.cell (i := 0) (by omega)
            have hl := hrow.cell (i := n - 1) (by omega)
            by_cases hlt : k < n
            · have hc := hrow.cell hlt
              have m1 := (splitF_mono (a := a0) (n := n) (i := k) (j := n - 1) (by omega)).1
              have m2 := (splitF_mono (a := a0) (n := n) (i := 0) (j := k) (by omega)).1
              have m3 := (splitF_mono (a := a0) (n := n) (i := k - 1) (j := k) (by omega)).1
              have hp := hrow.cell (i := k - 1) (by omega)
              have t1 : ¬ splitF a0 n k < splitF a0 n (n - 1) := by omega
              have t2 : ¬ splitF a0 n 0 < splitF a0 n k := by omega
              have t3 : ¬ splitF a0 n (k - 1) < splitF a0 n k := by omega
              have HR : Hid _ := hrow
              clear hrow
              by_cases hk0 : (0 : Int) < k
              · go_wp2
                go_round
                case rel => exact ⟨k + 1, by omega, by go_num⟩
                case measure => simp [intOf]; omega
              · go_wp2
                go_round
                case rel => exact ⟨k + 1, by omega, by go_num⟩
                case measure => simp [intOf]; omega
            · have m1 := splitF_mono (a := a0) (n := n) (i := 0) (j := n - 1) (by omega)
              have b1 := splitF_bd (a := a0) (n := n) (i := 0) h1 h2
              have b2 := splitF_bd (a := a0) (n := n) (i := n - 1) h1 h2
              obtain ⟨x, hx⟩ : ∃ x, splitF a0 n 0 = x := ⟨_, rfl⟩
              obtain ⟨y, hy⟩ : ∃ y, splitF a0 n (n - 1) = y := ⟨_, rfl⟩
              rw [hx] at hz m1 b1
              rw [hy] at hl m1 b2
              clear hx hy hrow
              have hd : x - y ≤ 1 := by omega
              have i0 : (0 : Int) < (n : Int) := by omega
              have i1 : (0 : Int) ≤ (n : Int) - 1 := by omega
              have i2 : (n : Int) - 1 < (n : Int) := by omega
              have i3 : ((n : Int) - 1).toNat = n - 1 := by omega
              have hd' : decide (x - y ≤ 1) = true := by simpa using hd
              go_wp2
              have z1 := Later.cell hz
              have z2 := Later.cell hl
              have hne : Nonempty (Later w1) := ⟨Later.now w1⟩
              refine region_later (by kernel_rfl) (by kernel_rfl) ?_
              repeat (first | go_big_quiet_step (exact calls_later _ (awake_any _)) | quiet_step (exact calls_later _ (awake_any _)))
              refine wpQuiet_nil ?_
              intro u
              go_wp2
              go_ret
              exact ⟨rfl, hb1.trans (u.below.mono hb1.size)⟩
        · go_enter Try.func6, Try.ntmps6
          go_wp2_with (first
            | (go_at_call 23; refine (split_no _ _ _ (.inr (.inr (by omega)))).mono ?_; rintro e w1 ⟨rfl, rfl⟩)
            | (go_at_call 19; refine (awake_any _).mono ?_; rintro e w2 ⟨rfl, hb2⟩))
          go_ret
          exact ⟨rfl, hb2⟩
      · go_enter Try.func6, Try.ntmps6
        go_wp2_with (first
          | (go_at_call 23; refine (split_no _ _ _ (.inr (.inl (by omega)))).mono ?_; rintro e w1 ⟨rfl, rfl⟩)
          | (go_at_call 19; refine (awake_any _).mono ?_; rintro e w2 ⟨rfl, hb2⟩))
        go_ret
        exact ⟨rfl, hb2⟩
    · go_enter Try.func6, Try.ntmps6
      go_wp2_with (first
        | (go_at_call 23; refine (split_no _ _ _ (.inl (may_not.2 (by omega)))).mono ?_; rintro e w1 ⟨rfl, rfl⟩)
        | (go_at_call 19; refine (awake_any _).mono ?_; rintro e w2 ⟨rfl, hb2⟩))
      go_ret
      exact ⟨rfl, hb2⟩
  · go_enter Try.func6, Try.ntmps6
    go_wp2_with (first
      | (go_at_call 23; refine (split_no _ _ _ (.inl (may_not.2 (by omega)))).mono ?_; rintro e w1 ⟨rfl, rfl⟩)
      | (go_at_call 19; refine (awake_any _).mono ?_; rintro e w2 ⟨rfl, hb2⟩))
    go_ret
    exact ⟨rfl, hb2⟩
end Go.Proofs.Ytpnegdcfccnocaa
