/-
  Contracts of package amount's May, Add, Sub, Mul, Part: each returns what the plain functions here say, and leaves memory as it was.
-/
import Derived.Test.YtdoejppnifoebaaRows
import Derived.WalkKit
import Derived.ProofKit
import Derived.OpenShut
namespace Go.Proofs.Ytdoejppnifoebaa
open Go.ChangeShapes Go.WideShapes Go.ChangeAt Go.RowKit

def may (a : Int) : Bool := decide (0 ≤ a ∧ a ≤ 1000000000)
theorem may_iff {a : Int} : may a = true ↔ 0 ≤ a ∧ a ≤ 1000000000 := by unfold may; simp
theorem may_not {a : Int} : may a = false ↔ a < 0 ∨ 1000000000 < a := by unfold may; simp; omega

def addV (a b : Int) : Int := if may a = true ∧ may b = true ∧ a + b ≤ 1000000000 then a + b else 0
def addE (a b : Int) : Int := if may a = true ∧ may b = true then (if a + b ≤ 1000000000 then 0 else 4) else 1
def subV (a b : Int) : Int := if may a = true ∧ may b = true ∧ b ≤ a then a - b else 0
def subE (a b : Int) : Int := if may a = true ∧ may b = true then (if b ≤ a then 0 else 9) else 1
def mulV (a b : Int) : Int := if may a = true ∧ may b = true ∧ a * b ≤ 1000000000 then a * b else 0
def mulE (a b : Int) : Int := if may a = true ∧ may b = true then (if a * b ≤ 1000000000 then 0 else 4) else 1
def partOk (a n o : Int) : Bool := may a && may n && may o && decide (o ≠ 0) && decide (n ≤ o)
def partV (a n o : Int) : Int := if partOk a n o = true then a * n / o else 0
def partE (a n o : Int) : Int := if partOk a n o = true then 0 else 1

theorem may_any (a : Int) (w : World) : Calls Try.prog 44 #[.int .i64 a] w fun e w' => e = .returned (.bool (may a)) ∧ w = w' := by
  by_cases h0 : 0 ≤ a
  · by_cases h1 : a ≤ 1000000000
    · have hm : true = may a := (may_iff.2 ⟨h0, h1⟩).symm
      rw [← hm]
      clear hm
      go_enter Try.func44, Try.ntmps44
      go_wp2
      go_ret
      exact ⟨rfl, rfl⟩
    · have hm : may a = false := may_not.2 (by omega)
      go_enter Try.func44, Try.ntmps44
      go_wp2
      go_ret
      exact ⟨rfl, rfl⟩
  · have hm : may a = false := may_not.2 (by omega)
    go_enter Try.func44, Try.ntmps44
    go_wp2
    go_ret
    exact ⟨rfl, rfl⟩

theorem div_lt_iff (m a b : Int) (hb : 0 < b) : m / b < a ↔ m < a * b := by
  rw [Int.ediv_lt_iff_lt_mul hb]
theorem mul_nn {a b : Int} (ha : 0 ≤ a) (hb : 0 ≤ b) : 0 ≤ a * b := Int.mul_nonneg ha hb
theorem mul_bd {a b : Int} (_ha : 0 ≤ a) (ha' : a ≤ 1000000000) (hb : 0 ≤ b) (hb' : b ≤ 1000000000) : a * b ≤ 1000000000000000000 := by
  have := Int.mul_le_mul ha' hb' hb (by omega : (0:Int) ≤ 1000000000)
  omega

end Go.Proofs.Ytdoejppnifoebaa
