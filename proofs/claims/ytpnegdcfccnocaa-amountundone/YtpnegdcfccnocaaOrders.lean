/-
  The walk of AmountOrders: it returns true, whatever the two numbers are, and turns nothing that was there.
-/
import Derived.Test.YtpnegdcfccnocaaSpl
namespace Go.Proofs.Ytpnegdcfccnocaa
open Go.ChangeShapes Go.WideShapes Go.ChangeAt Go.RowKit

theorem addV_comm (a b : Int) : addV a b = addV b a := by unfold addV; simp only [Int.add_comm b a]; by_cases h1 : may a = true <;> by_cases h2 : may b = true <;> simp [h1, h2]
theorem addE_comm (a b : Int) : addE a b = addE b a := by unfold addE; simp only [Int.add_comm b a]; by_cases h1 : may a = true <;> by_cases h2 : may b = true <;> simp [h1, h2]
theorem mulV_comm (a b : Int) : mulV a b = mulV b a := by unfold mulV; simp only [Int.mul_comm b a]; by_cases h1 : may a = true <;> by_cases h2 : may b = true <;> simp [h1, h2]
theorem mulE_comm (a b : Int) : mulE a b = mulE b a := by unfold mulE; simp only [Int.mul_comm b a]; by_cases h1 : may a = true <;> by_cases h2 : may b = true <;> simp [h1, h2]

theorem addV0 {a : Int} (h : may a = true) : addV a 0 = a := by have := may_iff.1 h; simp [addV, may]; omega
theorem addE0 {a : Int} (h : may a = true) : addE a 0 = 0 := by have := may_iff.1 h; simp [addE, may]; omega
theorem subV0 (a : Int) : subV a a = 0 := by simp [subV]
theorem subE0 {a : Int} (h : may a = true) : subE a a = 0 := by simp [subE, h]
theorem part7 {a : Int} (h : may a = true) : partOk a 7 7 = true := by have := may_iff.1 h; simp [partOk, may]; omega
theorem partV7 {a : Int} (h : may a = true) : partV a 7 7 = a := by simp [partV, part7 h]
theorem partE7 {a : Int} (h : may a = true) : partE a 7 7 = 0 := by simp [partE, part7 h]
theorem addE_no {a : Int} (b : Int) (h : may a = false) : addE a b = 1 := by simp [addE, h]
theorem mulE_no {a : Int} (b : Int) (h : may a = false) : mulE a b = 1 := by simp [mulE, h]

set_option maxHeartbeats 1000000 in
theorem amountOrders_walk (a0 a1 : Int) (_w0 : (Lit.int .i64 a0).wf = true) (_w1 : (Lit.int .i64 a1).wf = true) (w : World) :
    Calls Try.prog 8 #[.int .i64 a0, .int .i64 a1] w fun e w' => e = .returned (.bool true) ∧ Below w.heap.size w w' := by
  have hx' : addV a1 a0 = addV a0 a1 := addV_comm _ _
  have he' : addE a1 a0 = addE a0 a1 := addE_comm _ _
  have hp' : mulV a1 a0 = mulV a0 a1 := mulV_comm _ _
  have hg' : mulE a1 a0 = mulE a0 a1 := mulE_comm _ _
  by_cases hm : may a0 = true
  · have A1 := addV0 hm
    have A2 := addE0 hm
    have A3 := subV0 a0
    have A4 := subE0 hm
    have A5 := partV7 hm
    have A6 := partE7 hm
    go_enter Try.func8, Try.ntmps8
    go_wp2_with (first
      | (go_at_call 9; refine (add_any _ _ _).mono ?_; rintro e w' ⟨rfl, rfl⟩)
      | (go_at_call 13; refine (mul_any _ _ _).mono ?_; rintro e w' ⟨rfl, rfl⟩)
      | (go_at_call 11; refine (sub_any _ _ _).mono ?_; rintro e w' ⟨rfl, rfl⟩)
      | (go_at_call 15; refine (part_any _ _ _ _).mono ?_; rintro e w' ⟨rfl, rfl⟩)
      | (go_at_call 17; refine (may_any _ _).mono ?_; rintro e w' ⟨rfl, rfl⟩)
      | (go_at_call 19; refine (awake_any _).mono ?_; rintro e w' ⟨rfl, hbel⟩))
    go_ret
    exact ⟨rfl, hbel⟩
  · have hm' : may a0 = false := by simpa using hm
    have A1 := addE_no a1 hm'
    have A2 := mulE_no a1 hm'
    rw [A1] at he'
    rw [A2] at hg'
    go_enter Try.func8, Try.ntmps8
    go_wp2_with (first
      | (go_at_call 9; refine (add_any _ _ _).mono ?_; rintro e w' ⟨rfl, rfl⟩)
      | (go_at_call 13; refine (mul_any _ _ _).mono ?_; rintro e w' ⟨rfl, rfl⟩)
      | (go_at_call 17; refine (may_any _ _).mono ?_; rintro e w' ⟨rfl, rfl⟩)
      | (go_at_call 19; refine (awake_any _).mono ?_; rintro e w' ⟨rfl, hbel⟩))
    go_ret
    exact ⟨rfl, hbel⟩
end Go.Proofs.Ytpnegdcfccnocaa
