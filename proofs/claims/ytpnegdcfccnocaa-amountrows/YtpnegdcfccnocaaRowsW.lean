/-
  The walk of AmountRows: it returns true, whatever the numbers and the row are, and turns nothing that was there.
-/
import Derived.Test.YtpnegdcfccnocaaRows1
import Derived.Test.YtpnegdcfccnocaaRowIn
namespace Go.Proofs.Ytpnegdcfccnocaa
open Go.ChangeShapes Go.WideShapes Go.ChangeAt Go.RowKit

theorem rsplit_ints (a : Int) (n : Nat) (w : World) (ha : may a = true) (hn1 : 1 ≤ n) (hn2 : n ≤ 64) :
    Calls Try.prog 24 #[.int .i64 a, .int .i64 (n : Int)] w fun e w' => ∃ x c, e = .returned (.slice x n c) ∧ Ints w' x (splitL a n) ∧ Below w.heap.size w w' := by
  refine (rsplit_yes a n w ha hn1 hn2).mono ?_
  rintro e w' ⟨v, rfl, hown, hb⟩
  obtain ⟨x, c, rfl, _, hi⟩ := own_ints hown
  exact ⟨x, c, rfl, hi, hb⟩

theorem same_len (a b : Option Addr) (l : List Int) (n ca cb : Nat) (w : World) (hn : l.length = n) (hl : n ≤ 64) (ha : Ints w a l) (hb : Ints w b l) :
    Calls Try.prog 22 #[.slice a n ca, .slice b n cb] w fun e w' => e = .returned (.bool true) ∧ ∃ m, w' = w.drewN m := by
  subst hn
  have h := same_any a b l l ca cb w (by omega) ha hb
  have e : decide (l = l) = true := by simp
  rw [e] at h
  exact h

set_option maxHeartbeats 1000000 in
theorem amountRows_walk (a0 : Int) (a1 : Int) (a2 : Option Addr) (len2 cap2 : Nat) (z2 : List Int) (w : World) (_w0 : (Lit.int .i64 a0).wf = true) (_w1 : (Lit.int .i64 a1).wf = true) (w2 : IsRow .i64 w a2 len2 cap2 z2) :
    Calls Try.prog 4 #[.int .i64 a0, .int .i64 a1, .slice a2 len2 cap2] w fun e w' => e = .returned (.bool true) ∧ Below w.heap.size w w' := by
  obtain ⟨l, rfl, hl, hi⟩ := w2.ints
  by_cases hlen : l.length ≤ 200
  · have hl4 : l.length ≤ 4611686018427387904 := by omega
    have HI : Hid (Ints w a2 l) := hi
    clear hi w2
    by_cases hs : may a0 = true ∧ 1 ≤ a1 ∧ a1 ≤ 64
    · obtain ⟨hm, n1, n2⟩ := hs
      obtain ⟨n, rfl⟩ : ∃ n : Nat, a1 = n := ⟨a1.toNat, by omega⟩
      have n1' : 1 ≤ n := by omega
      have n2' : n ≤ 64 := by omega
      go_enter Try.func4, Try.ntmps4
      go_wp2_with (first
        | (go_at_call 20; refine (sum_any _ _ _ _ hl4 HI.out).mono ?_; rintro e w' ⟨rfl, rfl⟩)
        | (go_at_call 21; refine (rsum_any _ _ _ _ hl4 HI.out).mono ?_; rintro e w' ⟨rfl, rfl⟩)
        | (go_at_call 23; refine (split_yes _ _ _ hm n1' n2').mono ?_; rintro e w1 ⟨rfl, hrow, hb1⟩)
        | (go_at_call 24; refine (rsplit_ints _ _ _ hm n1' n2').mono ?_; rintro e w3 ⟨x, c, rfl, hx, hb3⟩)
        | (go_at_call 22; refine (same_len _ _ (splitL a0 n) _ _ _ _ (splitL_len _ _) n2' ((ints_of_row hrow).below hb3) hx).mono ?_; rintro e w4 ⟨rfl, m, rfl⟩)
        | (go_at_call 19; refine (awake_any _).mono ?_; rintro e w5 ⟨rfl, hb5⟩))
      go_ret
      exact ⟨rfl, (below_drewN (hb1.trans (hb3.mono hb1.size)) m).trans (hb5.mono (Nat.le_trans hb1.size hb3.size))⟩
    · have hno : may a0 = false ∨ a1 < 1 ∨ 64 < a1 := by
        by_cases h1 : may a0 = true
        · right; have : ¬ (1 ≤ a1 ∧ a1 ≤ 64) := fun h => hs ⟨h1, h⟩; omega
        · left; simpa using h1
      clear hs
      have hsame := fun (w : World) => same_len none none [] 0 0 0 w rfl (by omega) (.inl rfl) (.inl rfl)
      go_enter Try.func4, Try.ntmps4
      go_wp2_with (first
        | (go_at_call 20; refine (sum_any _ _ _ _ hl4 HI.out).mono ?_; rintro e w' ⟨rfl, rfl⟩)
        | (go_at_call 21; refine (rsum_any _ _ _ _ hl4 HI.out).mono ?_; rintro e w' ⟨rfl, rfl⟩)
        | (go_at_call 23; refine (split_no _ _ _ hno).mono ?_; rintro e w1 ⟨rfl, rfl⟩)
        | (go_at_call 24; refine (rsplit_no _ _ _ hno).mono ?_; rintro e w3 ⟨rfl, rfl⟩)
        | (go_at_call 22; refine (hsame _).mono ?_; rintro e w4 ⟨rfl, m, rfl⟩)
        | (go_at_call 19; refine (awake_any _).mono ?_; rintro e w5 ⟨rfl, hb5⟩))
      go_ret
      exact ⟨rfl, (below_drewN (Below.refl _ _) m).trans hb5⟩
  · go_enter Try.func4, Try.ntmps4
    go_wp2_with (go_at_call 19; refine (awake_any _).mono ?_; rintro e w5 ⟨rfl, hb5⟩)
    go_ret
    exact ⟨rfl, hb5⟩
end Go.Proofs.Ytpnegdcfccnocaa
