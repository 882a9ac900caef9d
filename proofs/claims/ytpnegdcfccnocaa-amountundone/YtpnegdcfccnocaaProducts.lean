/-
  The walk of AmountProducts: it returns true, whatever the two numbers are, and turns nothing that was there.
-/
import Derived.Test.YtpnegdcfccnocaaOrders
import Derived.Test.YtpnegdcfccnocaaNum
namespace Go.Proofs.Ytpnegdcfccnocaa
open Go.ChangeShapes Go.WideShapes Go.ChangeAt Go.RowKit

theorem addV_in {a b : Int} (h1 : 0 ≤ a) (h2 : 0 ≤ b) (h3 : a + b ≤ 1000000000) : addV a b = a + b := by
  have e1 : may a = true := may_iff.2 (by omega)
  have e2 : may b = true := may_iff.2 (by omega)
  simp [addV, e1, e2, h3]
theorem addE_in {a b : Int} (h1 : 0 ≤ a) (h2 : 0 ≤ b) (h3 : a + b ≤ 1000000000) : addE a b = 0 := by
  have e1 : may a = true := may_iff.2 (by omega)
  have e2 : may b = true := may_iff.2 (by omega)
  simp [addE, e1, e2, h3]
theorem addE_over {a b : Int} (h1 : 0 ≤ a) (h2 : 0 ≤ b) (h1' : a ≤ 1000000000) (h2' : b ≤ 1000000000) (h3 : 1000000000 < a + b) : addE a b = 4 := by
  have e1 : may a = true := may_iff.2 (by omega)
  have e2 : may b = true := may_iff.2 (by omega)
  have e3 : ¬ (a + b ≤ 1000000000) := by omega
  simp [addE, e1, e2, e3]
theorem mul_in {a b : Int} (h1 : 0 ≤ a) (h2 : 0 ≤ b) (h1' : a ≤ 1000000000) (h2' : b ≤ 1000000000) (h3 : a * b ≤ 1000000000) : mulV a b = a * b ∧ mulE a b = 0 := by
  have e1 : may a = true := may_iff.2 (by omega)
  have e2 : may b = true := may_iff.2 (by omega)
  simp [mulV, mulE, e1, e2, h3]
theorem mul_over {a b : Int} (h1 : 0 ≤ a) (h2 : 0 ≤ b) (h1' : a ≤ 1000000000) (h2' : b ≤ 1000000000) (h3 : 1000000000 < a * b) : mulE a b = 4 := by
  have e1 : may a = true := may_iff.2 (by omega)
  have e2 : may b = true := may_iff.2 (by omega)
  have e3 : ¬ (a * b ≤ 1000000000) := by omega
  simp [mulE, e1, e2, e3]
theorem step_mul (k : Nat) (A : Int) : ((k : Int) + 1) * A = k * A + A := by rw [Int.add_mul, Int.one_mul]
theorem over_mul {k N : Nat} {A : Int} (h : k < N) (h0 : 0 ≤ A) (h1 : 1000000000 < k * A + A) : 1000000000 < A * (N : Int) := by
  have : ((k : Int) + 1) * A ≤ N * A := Int.mul_le_mul_of_nonneg_right (by omega) h0
  rw [step_mul] at this
  rw [Int.mul_comm]
  omega

set_option maxHeartbeats 1000000 in
theorem amountProducts_walk (a0 a1 : Int) (_w0 : (Lit.int .i64 a0).wf = true) (_w1 : (Lit.int .i64 a1).wf = true) (w : World) :
    Calls Try.prog 7 #[.int .i64 a0, .int .i64 a1] w fun e w' => e = .returned (.bool true) ∧ Below w.heap.size w w' := by
  have bA := um_bd a0 1000000001 (by omega) (by omega)
  have bN := um_bd a1 100 (by omega) (by omega)
  obtain ⟨A, hA⟩ : ∃ A, um a0 1000000001 = A := ⟨_, rfl⟩
  obtain ⟨N, hN⟩ : ∃ N : Nat, um a1 100 = N := ⟨(um a1 100).toNat, by omega⟩
  rw [hA] at bA
  rw [hN] at bN
  obtain ⟨bA1, bA2⟩ := bA
  obtain ⟨_, bN2⟩ := bN
  have hA' : wrap64 ((IntKind.u64.wrap a0).tmod 1000000001) = A := hA
  have hN' : wrap64 ((IntKind.u64.wrap a1).tmod 100) = (N : Int) := hN
  clear hA hN
  go_enter Try.func7, Try.ntmps7
  go_wp2
  rw [hA', hN']
  clear hA' hN'
  go_loop [5, 6, 22] (fun s o i => ∃ k : Nat, ∃ S : Int, k ≤ N ∧ i = .int .i64 k ∧ s = .int .i64 S ∧ Hid (S = k * A) ∧ 0 ≤ S ∧ S ≤ 1000000000 ∧ o = .bool false) (fun _ _ i => N - (intOf i).toNat)
  case atStart => exact ⟨0, 0, Nat.zero_le _, rfl, rfl, by show (0 : Int) = 0 * A; omega, by omega, by omega, rfl⟩
  case round =>
    obtain ⟨k, S, hk, rfl, rfl, HS, hS0, hS1, rfl⟩ := hrel
    by_cases hlt : k < N
    · by_cases hov : S + A ≤ 1000000000
      · have e1 := addV_in hS0 bA1 hov
        have e2 := addE_in hS0 bA1 hov
        have HS' : Hid (S + A = (((k + 1 : Nat) : Int)) * A) := by
          show S + A = (((k + 1 : Nat) : Int)) * A
          rw [HS.out, Int.natCast_add, Int.natCast_one, step_mul]
        go_wp2_with (go_at_call 9; refine (add_any _ _ _).mono ?_; rintro e w' ⟨rfl, rfl⟩)
        go_round
        case rel => exact ⟨k + 1, S + A, by omega, by go_num, rfl, HS', by omega, by omega, rfl⟩
        case measure => simp [intOf]; omega
      · have e2 := addE_over hS0 bA1 hS1 (by omega) (by omega : 1000000000 < S + A)
        have h1 := over_mul hlt bA1 (by rw [← HS.out]; omega)
        have e3 := mul_over bA1 (by omega : (0 : Int) ≤ N) (by omega) (by omega) h1
        have e4 : mulE N A = 4 := by rw [mulE_comm]; exact e3
        clear h1 hov
        go_wp2_with (first
          | (go_at_call 9; refine (add_any _ _ _).mono ?_; rintro e w' ⟨rfl, rfl⟩)
          | (go_at_call 13; refine (mul_any _ _ _).mono ?_; rintro e w' ⟨rfl, rfl⟩)
          | (go_at_call 19; refine (awake_any _).mono ?_; rintro e w' ⟨rfl, hbel⟩))
        go_ret
        exact ⟨rfl, hbel⟩
    · obtain rfl : k = N := by omega
      have hp : A * (k : Int) ≤ 1000000000 := by rw [Int.mul_comm, ← HS.out]; exact hS1
      obtain ⟨e1, e3⟩ := mul_in bA1 (by omega : (0 : Int) ≤ k) (by omega) (by omega) hp
      have e2 : mulV k A = S := by rw [mulV_comm, e1, Int.mul_comm, ← HS.out]
      have e1' : mulV A k = S := by rw [e1, Int.mul_comm, ← HS.out]
      have e4 : mulE k A = 0 := by rw [mulE_comm]; exact e3
      clear hp e1
      go_wp2_with (first
        | (go_at_call 13; refine (mul_any _ _ _).mono ?_; rintro e w' ⟨rfl, rfl⟩)
        | (go_at_call 19; refine (awake_any _).mono ?_; rintro e w' ⟨rfl, hbel⟩))
      go_ret
      exact ⟨rfl, hbel⟩
end Go.Proofs.Ytpnegdcfccnocaa
