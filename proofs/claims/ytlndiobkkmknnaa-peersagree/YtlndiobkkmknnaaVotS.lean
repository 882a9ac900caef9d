/-
  Contracts of vote's May, Final, Decided, meant, first, follows, Next.
-/
import Derived.Test.YtlndiobkkmknnaaOrdB
import Derived.Test.YtlndiobkkmknnaaVotM
import Derived.ProofKit
import Derived.OpenShut
import Derived.WalkLawsBesides
import Derived.Outline
import Derived.Laws.StructEq
namespace Go.Proofs.Ytlndiobkkmknnaa
open Go.ChangeShapes Go.WideShapes Go.ChangeAt Go.RowKit

theorem vmay_any (s : Int) (w : World) : Calls Try.prog 14 #[.int .i64 s] w fun e w' => e = .returned (.bool (mayV s)) ∧ w = w' := by
  unfold mayV
  by_cases a : 0 ≤ s
  · simp only [a, decide_true, Bool.true_and]
    go_enter Try.func14, Try.ntmps14
    go_wp2
    go_ret
    exact ⟨rfl, rfl⟩
  · simp only [a, decide_false, Bool.false_and]
    go_enter Try.func14, Try.ntmps14
    go_wp2
    go_ret
    exact ⟨rfl, rfl⟩
/-- A state's name. -/
def nmV (s : Int) : ByteArray :=
  if s = 0 then ⟨#[110, 111, 110, 101]⟩ else if s = 1 then ⟨#[114, 101, 97, 100, 121]⟩ else if s = 2 then ⟨#[121, 101, 115]⟩ else if s = 3 then ⟨#[110, 111]⟩
  else if s = 4 then ⟨#[102, 111, 114, 99, 101, 100, 32, 121, 101, 115]⟩ else if s = 5 then ⟨#[102, 111, 114, 99, 101, 100, 32, 110, 111]⟩ else ByteArray.empty
end Go.Proofs.Ytlndiobkkmknnaa
