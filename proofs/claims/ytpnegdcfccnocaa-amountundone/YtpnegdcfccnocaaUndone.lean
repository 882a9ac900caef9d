/-
  The walk of AmountUndone: it returns true, whatever the three numbers are, and turns nothing that was there.
-/
import Derived.Test.YtpnegdcfccnocaaSum
import Derived.Test.YtpnegdcfccnocaaProducts
namespace Go.Proofs.Ytpnegdcfccnocaa
open Go.ChangeShapes Go.WideShapes Go.ChangeAt Go.RowKit

theorem sumGo_nn (l : List Int) : ∀ (s : Int), 0 ≤ s → (∀ x ∈ l, 0 ≤ x) → s + l.sum ≤ 1000000000 → sumGo s l = (s + l.sum, 0) := by
  induction l with
  | nil => intro s _ _ _; simp [sumGo]
  | cons x r ih =>
    intro s hs hx hb
    have hx0 : 0 ≤ x := hx x (by simp)
    have hr : 0 ≤ r.sum := by
      clear ih hb
      have : ∀ y ∈ r, 0 ≤ y := fun y hy => hx y (by simp [hy])
      clear hx
      induction r with
      | nil => simp
      | cons y q ihq =>
        have h1 := this y (by simp)
        have h2 := ihq (fun z hz => this z (by simp [hz]))
        simp; omega
    simp only [List.sum_cons] at hb
    have h1 : s + x ≤ 1000000000 := by omega
    rw [sumGo, if_pos (addE_in hs hx0 h1), addV_in hs hx0 h1, ih (s + x) (by omega) (fun y hy => hx y (by simp [hy])) (by omega)]
    simp; omega

theorem sum_range (q r : Int) (hr : 0 ≤ r) (m : Nat) : ((List.range m).map (fun i : Nat => q + if (i : Int) < r then 1 else 0)).sum = m * q + min (m : Int) r := by
  induction m with
  | zero => simp; omega
  | succ m ih =>
    rw [List.range_succ, List.map_append, List.sum_append, ih]
    simp only [List.map_cons, List.map_nil, List.sum_cons, List.sum_nil]
    have e : ((m + 1 : Nat) : Int) * q = m * q + q := by rw [Int.natCast_add, Int.natCast_one, step_mul]
    rw [e]
    split <;> omega

theorem splitL_sum (a : Int) (n : Nat) (hn : 1 ≤ n) : (splitL a n).sum = a := by
  have hn' : (0 : Int) < n := by omega
  have r1 : 0 ≤ a % n := Int.emod_nonneg _ (by omega)
  have r2 : a % n < n := Int.emod_lt_of_pos _ hn'
  have h := sum_range (a / n) (a % n) r1 n
  have e : splitL a n = (List.range n).map (fun i : Nat => a / n + if (i : Int) < a % n then 1 else 0) := rfl
  rw [e, h, Int.min_eq_right (by omega)]
  exact Int.mul_ediv_add_emod a n

theorem splitL_nn (a : Int) (n : Nat) (ha : 0 ≤ a) : ∀ x ∈ splitL a n, 0 ≤ x := by
  intro x hx
  simp only [splitL, List.mem_map] at hx
  obtain ⟨i, _, rfl⟩ := hx
  have h : 0 ≤ a / (n : Int) := Int.ediv_nonneg ha (by omega)
  unfold splitF
  split <;> omega

theorem sum_split (a : Int) (n : Nat) (ha : may a = true) (hn : 1 ≤ n) : sumV (splitL a n) = a ∧ sumE (splitL a n) = 0 := by
  obtain ⟨h1, h2⟩ := may_iff.1 ha
  have h := sumGo_nn (splitL a n) 0 (by omega) (splitL_nn a n h1) (by rw [splitL_sum a n hn]; omega)
  rw [splitL_sum a n hn] at h
  unfold sumV sumE
  rw [h]
  simp

theorem sumSplit (a : Option Addr) (A : Int) (N ca : Nat) (w : World) (hA : may A = true) (hn : 1 ≤ N) (hN : N ≤ 64) (ha : Ints w a (splitL A N)) :
    Calls Try.prog 20 #[.slice a N ca] w fun e w' => e = .returned (.tuple #[.int .i64 A, .int .i64 0]) ∧ w = w' := by
  have h := sum_any a (splitL A N) ca w (by rw [splitL_len]; omega) ha
  rw [splitL_len, (sum_split A N hA hn).1, (sum_split A N hA hn).2] at h
  exact h

theorem parts_two (a n b : Int) (hb : 0 < b) : a * n / b + a * (b - n) / b ≤ a ∧ a - 1 ≤ a * n / b + a * (b - n) / b := by
  obtain ⟨X, hX⟩ : ∃ X, X = a * n := ⟨_, rfl⟩
  obtain ⟨Y, hY⟩ : ∃ Y, Y = a * (b - n) := ⟨_, rfl⟩
  have hs : X + Y = a * b := by rw [hX, hY, Int.mul_sub]; omega
  rw [← hX, ← hY]
  have x1 := Int.mul_ediv_add_emod X b
  have x2 := Int.emod_nonneg X (by omega : b ≠ 0)
  have x3 := Int.emod_lt_of_pos X hb
  have y1 := Int.mul_ediv_add_emod Y b
  have y2 := Int.emod_nonneg Y (by omega : b ≠ 0)
  have y3 := Int.emod_lt_of_pos Y hb
  have e : b * (X / b + Y / b) = a * b - (X % b + Y % b) := by rw [Int.mul_add]; omega
  constructor
  · have : b * (X / b + Y / b) ≤ b * a := by rw [e, Int.mul_comm b a]; omega
    exact Int.le_of_mul_le_mul_left this hb
  · have h1 : b * (a - 2) < b * (X / b + Y / b) := by rw [e, Int.mul_sub, Int.mul_comm b a]; omega
    have := Int.lt_of_mul_lt_mul_left h1 (by omega : 0 ≤ b)
    omega

theorem sub_back {a b : Int} (h1 : 0 ≤ a) (h2 : 0 ≤ b) (h3 : a + b ≤ 1000000000) : subV (a + b) b = a ∧ subE (a + b) b = 0 := by
  have e1 : may (a + b) = true := may_iff.2 (by omega)
  have e2 : may b = true := may_iff.2 (by omega)
  have e3 : b ≤ a + b := by omega
  simp [subV, subE, e1, e2, e3]

theorem part_in {a n b : Int} (ha : may a = true) (h1 : 0 ≤ n) (h2 : n ≤ b) (h3 : 0 < b) (h4 : b ≤ 1000000000) : partV a n b = a * n / b ∧ partE a n b = 0 := by
  have e1 : may n = true := may_iff.2 (by omega)
  have e2 : may b = true := may_iff.2 (by omega)
  have e3 : b ≠ 0 := by omega
  have e : partOk a n b = true := by simp [partOk, ha, e1, e2, e3, h2]
  simp [partV, partE, e]

theorem part_le {a n b : Int} (ha : 0 ≤ a) (h1 : 0 ≤ n) (h2 : n ≤ b) (h3 : 0 < b) : 0 ≤ a * n / b ∧ a * n / b ≤ a := by
  refine ⟨Int.ediv_nonneg (Int.mul_nonneg ha h1) (by omega), ?_⟩
  have : a * n ≤ a * b := Int.mul_le_mul_of_nonneg_left h2 ha
  exact Int.ediv_le_of_le_mul h3 this

/-- Behind the first call: the rest of the law. -/
theorem undone_facts (A B : Int) (N : Nat) (hA1 : 0 ≤ A) (hA2 : A ≤ 1000000000) (hB2 : B ≤ 1000000000) (hN : (N : Int) ≤ B) (hN1 : 1 ≤ N) :
    ∃ P Q : Int, partV A N B = P ∧ partE A N B = 0 ∧ partV A (B - N) B = Q ∧ partE A (B - N) B = 0 ∧ 0 ≤ P ∧ P ≤ 1000000000 ∧ 0 ≤ Q ∧ Q ≤ 1000000000 ∧ P + Q ≤ A ∧ A - 1 ≤ P + Q := by
  have hm : may A = true := may_iff.2 ⟨hA1, hA2⟩
  have p1 := part_in hm (by omega : (0 : Int) ≤ N) hN (by omega) hB2
  have p2 := part_in (n := B - N) hm (by omega) (by omega) (by omega : 0 < B) hB2
  have q1 := part_le hA1 (by omega : (0 : Int) ≤ N) hN (by omega)
  have q2 := part_le (n := B - N) hA1 (by omega) (by omega) (by omega : 0 < B)
  have s := parts_two A N B (by omega)
  exact ⟨_, _, p1.1, p1.2, p2.1, p2.2, q1.1, by omega, q2.1, by omega, s.1, s.2⟩

set_option maxHeartbeats 2000000 in
theorem amountUndone_walk (a0 a1 a2 : Int) (_w0 : (Lit.int .i64 a0).wf = true) (_w1 : (Lit.int .i64 a1).wf = true) (_w2 : (Lit.int .i64 a2).wf = true) (w : World) :
    Calls Try.prog 5 #[.int .i64 a0, .int .i64 a1, .int .i64 a2] w fun e w' => e = .returned (.bool true) ∧ Below w.heap.size w w' := by
  have bA := um_bd a0 1000000001 (by omega) (by omega)
  have bB := um_bd a1 1000000001 (by omega) (by omega)
  have bN := um_bd a2 64 (by omega) (by omega)
  obtain ⟨A, hA⟩ : ∃ A, um a0 1000000001 = A := ⟨_, rfl⟩
  obtain ⟨B, hB⟩ : ∃ A, um a1 1000000001 = A := ⟨_, rfl⟩
  obtain ⟨N, hN⟩ : ∃ N : Nat, wrap64 (1 + um a2 64) = N := ⟨(1 + um a2 64).toNat, by rw [IntWalk.wrap64_in _ (by omega)]; omega⟩
  have hN1 : 1 ≤ N := by rw [IntWalk.wrap64_in _ (by omega)] at hN; omega
  have hN2 : N ≤ 64 := by rw [IntWalk.wrap64_in _ (by omega)] at hN; omega
  rw [hA] at bA
  rw [hB] at bB
  clear bN
  obtain ⟨hA1, hA2⟩ := bA
  obtain ⟨hB1, hB2⟩ := bB
  have hA3 : A ≤ 1000000000 := by omega
  have hB3 : B ≤ 1000000000 := by omega
  have hmA : may A = true := may_iff.2 ⟨hA1, hA3⟩
  have hA' : wrap64 ((IntKind.u64.wrap a0).tmod 1000000001) = A := hA
  have hB' : wrap64 ((IntKind.u64.wrap a1).tmod 1000000001) = B := hB
  have hN' : wrap64 (1 + wrap64 ((IntKind.u64.wrap a2).tmod 64)) = (N : Int) := hN
  clear hA hB hN hA2 hB2
  go_enter Try.func5, Try.ntmps5
  go_wp2_with fail
  rw [hA', hB', hN']
  clear hA' hB' hN'
  by_cases hov : A + B ≤ 1000000000
  · have f1 := addV_in hA1 hB1 hov
    have f2 := addE_in hA1 hB1 hov
    obtain ⟨f3, f4⟩ := sub_back hA1 hB1 hov
    by_cases hNB : (N : Int) ≤ B
    · obtain ⟨P, Q, p1, p2, p3, p4, p5, p6, p7, p8, p9, p10⟩ := undone_facts A B N hA1 hA3 hB3 hNB hN1
      have hB0 : (B == 0) = false := by simp; omega
      refine (add_any _ _ _).mono ?_
      rintro e w' ⟨rfl, rfl⟩
      go_wp2_with (first
        | (go_at_call 11; refine (sub_any _ _ _).mono ?_; rintro e w' ⟨rfl, rfl⟩)
        | (go_at_call 23; refine (split_yes _ _ _ hmA hN1 hN2).mono ?_; rintro e w1 ⟨rfl, hrow, hb1⟩)
        | (go_at_call 20; refine (sumSplit _ A _ _ _ hmA hN1 hN2 (ints_of_row hrow)).mono ?_; rintro e w' ⟨rfl, rfl⟩)
        | (go_at_call 15; refine (part_any _ _ _ _).mono ?_; rintro e w' ⟨rfl, rfl⟩)
        | (go_at_call 19; refine (awake_any _).mono ?_; rintro e w2 ⟨rfl, hb2⟩))
      go_ret
      exact ⟨rfl, hb1.trans (hb2.mono hb1.size)⟩
    · by_cases hB0 : B = 0
      · have hB0' : (B == 0) = true := by simpa using hB0
        have hBn : B < 1 := by omega
        clear hB0
        refine (add_any _ _ _).mono ?_
        rintro e w' ⟨rfl, rfl⟩
        go_wp2_with (first
          | (go_at_call 11; refine (sub_any _ _ _).mono ?_; rintro e w' ⟨rfl, rfl⟩)
          | (go_at_call 23; refine (split_yes _ _ _ hmA hN1 hN2).mono ?_; rintro e w1 ⟨rfl, hrow, hb1⟩)
          | (go_at_call 20; refine (sumSplit _ A _ _ _ hmA hN1 hN2 (ints_of_row hrow)).mono ?_; rintro e w' ⟨rfl, rfl⟩)
          | (go_at_call 15; refine (part_any _ _ _ _).mono ?_; rintro e w' ⟨rfl, rfl⟩)
          | (go_at_call 19; refine (awake_any _).mono ?_; rintro e w2 ⟨rfl, hb2⟩))
        go_ret
        exact ⟨rfl, hb1.trans (hb2.mono hb1.size)⟩
      · have hB0' : (B == 0) = false := by simpa using hB0
        have hBn : B < N := by omega
        have hBo : 1 ≤ B := by omega
        refine (add_any _ _ _).mono ?_
        rintro e w' ⟨rfl, rfl⟩
        go_wp2_with (first
          | (go_at_call 11; refine (sub_any _ _ _).mono ?_; rintro e w' ⟨rfl, rfl⟩)
          | (go_at_call 23; refine (split_yes _ _ _ hmA hN1 hN2).mono ?_; rintro e w1 ⟨rfl, hrow, hb1⟩)
          | (go_at_call 20; refine (sumSplit _ A _ _ _ hmA hN1 hN2 (ints_of_row hrow)).mono ?_; rintro e w' ⟨rfl, rfl⟩)
          | (go_at_call 15; refine (part_any _ _ _ _).mono ?_; rintro e w' ⟨rfl, rfl⟩)
          | (go_at_call 19; refine (awake_any _).mono ?_; rintro e w2 ⟨rfl, hb2⟩))
        go_ret
        exact ⟨rfl, hb1.trans (hb2.mono hb1.size)⟩
  · have f2 := addE_over hA1 hB1 hA3 hB3 (by omega)
    have f3 : ¬ (A ≤ 1000000000 - B) := by omega
    by_cases hNB : (N : Int) ≤ B
    · obtain ⟨P, Q, p1, p2, p3, p4, p5, p6, p7, p8, p9, p10⟩ := undone_facts A B N hA1 hA3 hB3 hNB hN1
      have hB0 : (B == 0) = false := by simp; omega
      refine (add_any _ _ _).mono ?_
      rintro e w' ⟨rfl, rfl⟩
      go_wp2_with (first
        | (go_at_call 11; refine (sub_any _ _ _).mono ?_; rintro e w' ⟨rfl, rfl⟩)
        | (go_at_call 23; refine (split_yes _ _ _ hmA hN1 hN2).mono ?_; rintro e w1 ⟨rfl, hrow, hb1⟩)
        | (go_at_call 20; refine (sumSplit _ A _ _ _ hmA hN1 hN2 (ints_of_row hrow)).mono ?_; rintro e w' ⟨rfl, rfl⟩)
        | (go_at_call 15; refine (part_any _ _ _ _).mono ?_; rintro e w' ⟨rfl, rfl⟩)
        | (go_at_call 19; refine (awake_any _).mono ?_; rintro e w2 ⟨rfl, hb2⟩))
      go_ret
      exact ⟨rfl, hb1.trans (hb2.mono hb1.size)⟩
    · by_cases hB0 : B = 0
      · exact absurd hov (by omega)
      · have hB0' : (B == 0) = false := by simpa using hB0
        have hBn : B < N := by omega
        have hBo : 1 ≤ B := by omega
        refine (add_any _ _ _).mono ?_
        rintro e w' ⟨rfl, rfl⟩
        go_wp2_with (first
          | (go_at_call 11; refine (sub_any _ _ _).mono ?_; rintro e w' ⟨rfl, rfl⟩)
          | (go_at_call 23; refine (split_yes _ _ _ hmA hN1 hN2).mono ?_; rintro e w1 ⟨rfl, hrow, hb1⟩)
          | (go_at_call 20; refine (sumSplit _ A _ _ _ hmA hN1 hN2 (ints_of_row hrow)).mono ?_; rintro e w' ⟨rfl, rfl⟩)
          | (go_at_call 15; refine (part_any _ _ _ _).mono ?_; rintro e w' ⟨rfl, rfl⟩)
          | (go_at_call 19; refine (awake_any _).mono ?_; rintro e w2 ⟨rfl, hb2⟩))
        go_ret
        exact ⟨rfl, hb1.trans (hb2.mono hb1.size)⟩
end Go.Proofs.Ytpnegdcfccnocaa
