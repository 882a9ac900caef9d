/-
  Contracts of vote's May, Final, Decided, meant, first, follows, Next.
-/
import Derived.Test.YtlhfkomnmfkeaaaOrdB
import Derived.Test.YtlhfkomnmfkeaaaVotM
import Derived.ProofKit
import Derived.OpenShut
import Derived.WalkLawsBesides
import Derived.Outline
import Derived.Laws.StructEq
namespace Go.Proofs.Ytlhfkomnmfkeaaa
open Go.ChangeShapes Go.WideShapes Go.ChangeAt Go.RowKit

theorem vmay_any (s : Int) (w : World) : Calls Try.prog 19 #[.int .i64 s] w fun e w' => e = .returned (.bool (mayV s)) ∧ w = w' := by
  unfold mayV
  by_cases a : 0 ≤ s
  · simp only [a, decide_true, Bool.true_and]
    go_enter Try.func19, Try.ntmps19
    go_wp2
    go_ret
    exact ⟨rfl, rfl⟩
  · simp only [a, decide_false, Bool.false_and]
    go_enter Try.func19, Try.ntmps19
    go_wp2
    go_ret
    exact ⟨rfl, rfl⟩
theorem vdec_any (s : Int) (w : World) : Calls Try.prog 21 #[.int .i64 s] w fun e w' => e = .returned (.tuple #[.bool (yesV s), .bool (finV s)]) ∧ w = w' := by
  rcases st_cases s with rfl | rfl | rfl | rfl | rfl | rfl | h
  case inr.inr.inr.inr.inr.inr =>
    have e1 : yesV s = false := by unfold yesV; simp; omega
    have e2 : finV s = false := by unfold finV; simp; omega
    rw [e1, e2]
    have q2 : (s == 2) = false := by simp; omega
    have q3 : (s == 3) = false := by simp; omega
    have q4 : (s == 4) = false := by simp; omega
    have q5 : (s == 5) = false := by simp; omega
    clear h e1 e2
    go_enter Try.func21, Try.ntmps21
    go_wp2
    go_ret2
    exact ⟨rfl, rfl⟩
  all_goals
    go_enter Try.func21, Try.ntmps21
    go_wp2
    go_ret2
    exact ⟨rfl, rfl⟩
/-- A state's name. -/
def nmV (s : Int) : ByteArray :=
  if s = 0 then ⟨#[110, 111, 110, 101]⟩ else if s = 1 then ⟨#[114, 101, 97, 100, 121]⟩ else if s = 2 then ⟨#[121, 101, 115]⟩ else if s = 3 then ⟨#[110, 111]⟩
  else if s = 4 then ⟨#[102, 111, 114, 99, 101, 100, 32, 121, 101, 115]⟩ else if s = 5 then ⟨#[102, 111, 114, 99, 101, 100, 32, 110, 111]⟩ else ByteArray.empty
end Go.Proofs.Ytlhfkomnmfkeaaa
