/-
  Contracts of package amount's May, Add, Sub, Mul, Part: each returns what the plain functions here say, and leaves memory as it was.
-/
import Derived.Test.YtdbmnjodkpeobaaGreatDoorRows
import Derived.WalkKit
import Derived.ProofKit
import Derived.OpenShut
namespace Go.Proofs.YtdbmnjodkpeobaaGreatDoor.Hd
open Go.ChangeShapes Go.WideShapes Go.ChangeAt Go.RowKit

def may (a : Int) : Bool := decide (0 ≤ a ∧ a ≤ 1000000000)
theorem may_iff {a : Int} : may a = true ↔ 0 ≤ a ∧ a ≤ 1000000000 := by unfold may; simp
theorem may_not {a : Int} : may a = false ↔ a < 0 ∨ 1000000000 < a := by unfold may; simp; omega

def addV (a b : Int) : Int := if may a = true ∧ may b = true ∧ a + b ≤ 1000000000 then a + b else 0
def addE (a b : Int) : Int := if may a = true ∧ may b = true then (if a + b ≤ 1000000000 then 0 else 4) else 1
def subV (a b : Int) : Int := if may a = true ∧ may b = true ∧ b ≤ a then a - b else 0
def subE (a b : Int) : Int := if may a = true ∧ may b = true then (if b ≤ a then 0 else 9) else 1
def mulV (a b : Int) : Int := if may a = true ∧ may b = true ∧ a * b ≤ 1000000000 then a * b else 0
def mulE (a b : Int) : Int := if may a = true ∧ may b = true then (if a * b ≤ 1000000000 then 0 else 4) else 1
def partOk (a n o : Int) : Bool := may a && may n && may o && decide (o ≠ 0) && decide (n ≤ o)
def partV (a n o : Int) : Int := if partOk a n o = true then a * n / o else 0
def partE (a n o : Int) : Int := if partOk a n o = true then 0 else 1

theorem may_any (a : Int) (w : World) : Calls Tryz.prog 63 #[.int .i64 a] w fun e w' => e = .returned (.bool (may a)) ∧ w = w' := by
  by_cases h0 : 0 ≤ a
  · by_cases h1 : a ≤ 1000000000
    · have hm : true = may a := (may_iff.2 ⟨h0, h1⟩).symm
      rw [← hm]
      clear hm
      go_enter Tryz.func63, Tryz.ntmps63
      go_wp2
      go_ret
      exact ⟨rfl, rfl⟩
    · have hm : may a = false := may_not.2 (by omega)
      go_enter Tryz.func63, Tryz.ntmps63
      go_wp2
      go_ret
      exact ⟨rfl, rfl⟩
  · have hm : may a = false := may_not.2 (by omega)
    go_enter Tryz.func63, Tryz.ntmps63
    go_wp2
    go_ret
    exact ⟨rfl, rfl⟩

theorem sub_any (a b : Int) (w : World) : Calls Tryz.prog 65 #[.int .i64 a, .int .i64 b] w fun e w' => e = .returned (.tuple #[.int .i64 (subV a b), .int .i64 (subE a b)]) ∧ w = w' := by
  by_cases ha : may a = true
  · by_cases hb : may b = true
    · have ha' := may_iff.1 ha
      have hb' := may_iff.1 hb
      by_cases hs : b ≤ a
      · have hn : ¬ (a < b) := by omega
        have hv : subV a b = a - b := by simp [subV, ha, hb, hs]
        have he : subE a b = 0 := by simp [subE, ha, hb, hs]
        rw [hv, he]
        clear hv he
        go_enter Tryz.func65, Tryz.ntmps65
        go_wp2_with (go_at_call 63; refine (may_any _ _).mono ?_; rintro e w' ⟨rfl, rfl⟩)
        go_ret2
        exact ⟨rfl, rfl⟩
      · have hn : a < b := by omega
        have hv : subV a b = 0 := by simp [subV, ha, hb, hs]
        have he : subE a b = 9 := by simp [subE, ha, hb, hs]
        rw [hv, he]
        clear hv he
        go_enter Tryz.func65, Tryz.ntmps65
        go_wp2_with (go_at_call 63; refine (may_any _ _).mono ?_; rintro e w' ⟨rfl, rfl⟩)
        go_ret2
        exact ⟨rfl, rfl⟩
    · have hb0 : may b = false := by simpa using hb
      have hv : subV a b = 0 := by simp [subV, hb]
      have he : subE a b = 1 := by simp [subE, hb]
      rw [hv, he]
      clear hv he
      go_enter Tryz.func65, Tryz.ntmps65
      go_wp2_with (go_at_call 63; refine (may_any _ _).mono ?_; rintro e w' ⟨rfl, rfl⟩)
      go_ret2
      exact ⟨rfl, rfl⟩
  · have ha0 : may a = false := by simpa using ha
    have hv : subV a b = 0 := by simp [subV, ha]
    have he : subE a b = 1 := by simp [subE, ha]
    rw [hv, he]
    clear hv he
    go_enter Tryz.func65, Tryz.ntmps65
    go_wp2_with (go_at_call 63; refine (may_any _ _).mono ?_; rintro e w' ⟨rfl, rfl⟩)
    go_ret2
    exact ⟨rfl, rfl⟩

theorem div_lt_iff (m a b : Int) (hb : 0 < b) : m / b < a ↔ m < a * b := by
  rw [Int.ediv_lt_iff_lt_mul hb]
theorem mul_nn {a b : Int} (ha : 0 ≤ a) (hb : 0 ≤ b) : 0 ≤ a * b := Int.mul_nonneg ha hb
theorem mul_bd {a b : Int} (_ha : 0 ≤ a) (ha' : a ≤ 1000000000) (hb : 0 ≤ b) (hb' : b ≤ 1000000000) : a * b ≤ 1000000000000000000 := by
  have := Int.mul_le_mul ha' hb' hb (by omega : (0:Int) ≤ 1000000000)
  omega

end Go.Proofs.YtdbmnjodkpeobaaGreatDoor.Hd
