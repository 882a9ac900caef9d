/-
  Contracts of the reference's May, Add, Sub, Mul, Part (wharfingerref1): each returns what the plain functions of the text Amt say.
-/
import Derived.Test.YtpnegdcfccnocaaAmt
namespace Go.Proofs.Ytpnegdcfccnocaa
open Go.ChangeShapes Go.WideShapes Go.ChangeAt Go.RowKit

theorem rmay_any (a : Int) (w : World) : Calls Try.prog 18 #[.int .i64 a] w fun e w' => e = .returned (.bool (may a)) ∧ w = w' := by
  by_cases h0 : 0 ≤ a
  · by_cases h1 : a ≤ 1000000000
    · have hm : true = may a := (may_iff.2 ⟨h0, h1⟩).symm
      rw [← hm]
      clear hm
      go_enter Try.func18, Try.ntmps18
      go_wp2
      go_ret
      exact ⟨rfl, rfl⟩
    · have hm : may a = false := may_not.2 (by omega)
      go_enter Try.func18, Try.ntmps18
      go_wp2
      go_ret
      exact ⟨rfl, rfl⟩
  · have hm : may a = false := may_not.2 (by omega)
    go_enter Try.func18, Try.ntmps18
    go_wp2
    go_ret
    exact ⟨rfl, rfl⟩

theorem radd_any (a b : Int) (w : World) : Calls Try.prog 10 #[.int .i64 a, .int .i64 b] w fun e w' => e = .returned (.tuple #[.int .i64 (addV a b), .int .i64 (addE a b)]) ∧ w = w' := by
  by_cases ha : may a = true
  · by_cases hb : may b = true
    · have ha' := may_iff.1 ha
      have hb' := may_iff.1 hb
      by_cases hs : a + b ≤ 1000000000
      · have hn : ¬ (1000000000 < a + b) := by omega
        have hv : addV a b = a + b := by simp [addV, ha, hb, hs]
        have he : addE a b = 0 := by simp [addE, ha, hb, hs]
        rw [hv, he]
        clear hv he
        go_enter Try.func10, Try.ntmps10
        go_wp2_with (go_at_call 18; refine (rmay_any _ _).mono ?_; rintro e w' ⟨rfl, rfl⟩)
        go_ret2
        exact ⟨rfl, rfl⟩
      · have hn : 1000000000 < a + b := by omega
        have hv : addV a b = 0 := by simp [addV, ha, hb, hs]
        have he : addE a b = 4 := by simp [addE, ha, hb, hs]
        rw [hv, he]
        clear hv he
        go_enter Try.func10, Try.ntmps10
        go_wp2_with (go_at_call 18; refine (rmay_any _ _).mono ?_; rintro e w' ⟨rfl, rfl⟩)
        go_ret2
        exact ⟨rfl, rfl⟩
    · have hb0 : may b = false := by simpa using hb
      have hv : addV a b = 0 := by simp [addV, hb]
      have he : addE a b = 1 := by simp [addE, hb]
      rw [hv, he]
      clear hv he
      go_enter Try.func10, Try.ntmps10
      go_wp2_with (go_at_call 18; refine (rmay_any _ _).mono ?_; rintro e w' ⟨rfl, rfl⟩)
      go_ret2
      exact ⟨rfl, rfl⟩
  · have ha0 : may a = false := by simpa using ha
    have hv : addV a b = 0 := by simp [addV, ha]
    have he : addE a b = 1 := by simp [addE, ha]
    rw [hv, he]
    clear hv he
    go_enter Try.func10, Try.ntmps10
    go_wp2_with (go_at_call 18; refine (rmay_any _ _).mono ?_; rintro e w' ⟨rfl, rfl⟩)
    go_ret2
    exact ⟨rfl, rfl⟩

theorem rsub_any (a b : Int) (w : World) : Calls Try.prog 12 #[.int .i64 a, .int .i64 b] w fun e w' => e = .returned (.tuple #[.int .i64 (subV a b), .int .i64 (subE a b)]) ∧ w = w' := by
  by_cases ha : may a = true
  · by_cases hb : may b = true
    · have ha' := may_iff.1 ha
      have hb' := may_iff.1 hb
      by_cases hs : b ≤ a
      · have hn : ¬ (a < b) := by omega
        have hv : subV a b = a - b := by simp [subV, ha, hb, hs]
        have he : subE a b = 0 := by simp [subE, ha, hb, hs]
        rw [hv, he]
        clear hv he
        go_enter Try.func12, Try.ntmps12
        go_wp2_with (go_at_call 18; refine (rmay_any _ _).mono ?_; rintro e w' ⟨rfl, rfl⟩)
        go_ret2
        exact ⟨rfl, rfl⟩
      · have hn : a < b := by omega
        have hv : subV a b = 0 := by simp [subV, ha, hb, hs]
        have he : subE a b = 9 := by simp [subE, ha, hb, hs]
        rw [hv, he]
        clear hv he
        go_enter Try.func12, Try.ntmps12
        go_wp2_with (go_at_call 18; refine (rmay_any _ _).mono ?_; rintro e w' ⟨rfl, rfl⟩)
        go_ret2
        exact ⟨rfl, rfl⟩
    · have hb0 : may b = false := by simpa using hb
      have hv : subV a b = 0 := by simp [subV, hb]
      have he : subE a b = 1 := by simp [subE, hb]
      rw [hv, he]
      clear hv he
      go_enter Try.func12, Try.ntmps12
      go_wp2_with (go_at_call 18; refine (rmay_any _ _).mono ?_; rintro e w' ⟨rfl, rfl⟩)
      go_ret2
      exact ⟨rfl, rfl⟩
  · have ha0 : may a = false := by simpa using ha
    have hv : subV a b = 0 := by simp [subV, ha]
    have he : subE a b = 1 := by simp [subE, ha]
    rw [hv, he]
    clear hv he
    go_enter Try.func12, Try.ntmps12
    go_wp2_with (go_at_call 18; refine (rmay_any _ _).mono ?_; rintro e w' ⟨rfl, rfl⟩)
    go_ret2
    exact ⟨rfl, rfl⟩

theorem rmul_any (a b : Int) (w : World) : Calls Try.prog 14 #[.int .i64 a, .int .i64 b] w fun e w' => e = .returned (.tuple #[.int .i64 (mulV a b), .int .i64 (mulE a b)]) ∧ w = w' := by
  by_cases ha : may a = true
  · by_cases hb : may b = true
    · obtain ⟨ha1, ha2⟩ := may_iff.1 ha
      obtain ⟨hb1, hb2⟩ := may_iff.1 hb
      have hn := mul_nn ha1 hb1
      have hx := mul_bd ha1 ha2 hb1 hb2
      by_cases hs : a * b ≤ 1000000000
      · have hv : mulV a b = a * b := by simp [mulV, ha, hb, hs]
        have he : mulE a b = 0 := by simp [mulE, ha, hb, hs]
        rw [hv, he]
        clear hv he
        have hq : ¬ (1000000000 < a * b) := by omega
        go_enter Try.func14, Try.ntmps14
        go_wp2_with (go_at_call 18; refine (rmay_any _ _).mono ?_; rintro e w' ⟨rfl, rfl⟩)
        go_ret2
        exact ⟨rfl, rfl⟩
      · have hv : mulV a b = 0 := by simp [mulV, ha, hb, hs]
        have he : mulE a b = 4 := by simp [mulE, ha, hb, hs]
        rw [hv, he]
        clear hv he
        have hq : 1000000000 < a * b := by omega
        go_enter Try.func14, Try.ntmps14
        go_wp2_with (go_at_call 18; refine (rmay_any _ _).mono ?_; rintro e w' ⟨rfl, rfl⟩)
        go_ret2
        exact ⟨rfl, rfl⟩
    · have hb0 : may b = false := by simpa using hb
      have hv : mulV a b = 0 := by simp [mulV, hb]
      have he : mulE a b = 1 := by simp [mulE, hb]
      rw [hv, he]
      clear hv he
      go_enter Try.func14, Try.ntmps14
      go_wp2_with (go_at_call 18; refine (rmay_any _ _).mono ?_; rintro e w' ⟨rfl, rfl⟩)
      go_ret2
      exact ⟨rfl, rfl⟩
  · have ha0 : may a = false := by simpa using ha
    have hv : mulV a b = 0 := by simp [mulV, ha]
    have he : mulE a b = 1 := by simp [mulE, ha]
    rw [hv, he]
    clear hv he
    go_enter Try.func14, Try.ntmps14
    go_wp2_with (go_at_call 18; refine (rmay_any _ _).mono ?_; rintro e w' ⟨rfl, rfl⟩)
    go_ret2
    exact ⟨rfl, rfl⟩

theorem rpart_yes (a n o : Int) (w : World) (h : partOk a n o = true) : Calls Try.prog 16 #[.int .i64 a, .int .i64 n, .int .i64 o] w fun e w' => e = .returned (.tuple #[.int .i64 (a * n / o), .int .i64 0]) ∧ w = w' := by
  simp only [partOk, Bool.and_eq_true, decide_eq_true_eq] at h
  obtain ⟨⟨⟨⟨ha, hn⟩, ho⟩, ho0⟩, hno⟩ := h
  obtain ⟨ha1, ha2⟩ := may_iff.1 ha
  obtain ⟨hn1, hn2⟩ := may_iff.1 hn
  obtain ⟨ho1, ho2⟩ := may_iff.1 ho
  have hz := mul_nn ha1 hn1
  have hx := mul_bd ha1 ha2 hn1 hn2
  have hop : 0 < o := by omega
  have hq1 : 0 ≤ a * n / o := Int.ediv_nonneg hz ho1
  have hq2 : a * n / o ≤ a * n := Int.ediv_le_self _ hz
  have e0 : (o == 0) = false := by simpa using ho0
  go_enter Try.func16, Try.ntmps16
  go_wp2_with (go_at_call 18; refine (rmay_any _ _).mono ?_; rintro e w' ⟨rfl, rfl⟩)
  go_ret2
  exact ⟨rfl, rfl⟩

theorem rpart_no (a n o : Int) (w : World) (h : partOk a n o = false) : Calls Try.prog 16 #[.int .i64 a, .int .i64 n, .int .i64 o] w fun e w' => e = .returned (.tuple #[.int .i64 0, .int .i64 1]) ∧ w = w' := by
  by_cases ha : may a = true
  · by_cases hn : may n = true
    · by_cases ho : may o = true
      · by_cases e : o = 0
        · subst e
          go_enter Try.func16, Try.ntmps16
          go_wp2_with (go_at_call 18; refine (rmay_any _ _).mono ?_; rintro e w' ⟨rfl, rfl⟩)
          go_ret2
          exact ⟨rfl, rfl⟩
        · have e0 : (o == 0) = false := by simpa using e
          have hno : o < n := by simp [partOk, ha, hn, ho, e] at h; exact h
          go_enter Try.func16, Try.ntmps16
          go_wp2_with (go_at_call 18; refine (rmay_any _ _).mono ?_; rintro e w' ⟨rfl, rfl⟩)
          go_ret2
          exact ⟨rfl, rfl⟩
      · have h0 : may o = false := by simpa using ho
        go_enter Try.func16, Try.ntmps16
        go_wp2_with (go_at_call 18; refine (rmay_any _ _).mono ?_; rintro e w' ⟨rfl, rfl⟩)
        go_ret2
        exact ⟨rfl, rfl⟩
    · have h0 : may n = false := by simpa using hn
      go_enter Try.func16, Try.ntmps16
      go_wp2_with (go_at_call 18; refine (rmay_any _ _).mono ?_; rintro e w' ⟨rfl, rfl⟩)
      go_ret2
      exact ⟨rfl, rfl⟩
  · have h0 : may a = false := by simpa using ha
    go_enter Try.func16, Try.ntmps16
    go_wp2_with (go_at_call 18; refine (rmay_any _ _).mono ?_; rintro e w' ⟨rfl, rfl⟩)
    go_ret2
    exact ⟨rfl, rfl⟩

theorem rpart_any (a n o : Int) (w : World) : Calls Try.prog 16 #[.int .i64 a, .int .i64 n, .int .i64 o] w fun e w' => e = .returned (.tuple #[.int .i64 (partV a n o), .int .i64 (partE a n o)]) ∧ w = w' := by
  by_cases h : partOk a n o = true
  · have hv : partV a n o = a * n / o := by simp [partV, h]
    have he : partE a n o = 0 := by simp [partE, h]
    rw [hv, he]; exact rpart_yes a n o w h
  · have hv : partV a n o = 0 := by simp [partV, h]
    have he : partE a n o = 1 := by simp [partE, h]
    rw [hv, he]; exact rpart_no a n o w (by simpa using h)
end Go.Proofs.Ytpnegdcfccnocaa
