/-
  Contracts of vote's May, Final, Decided, meant, first, follows, Next.
-/
import Derived.Test.YtmibohdppgijhaaOrdB
import Derived.Test.YtmibohdppgijhaaVotM
import Derived.ProofKit
import Derived.OpenShut
import Derived.WalkLawsBesides
import Derived.Outline
import Derived.Laws.StructEq
namespace Go.Proofs.Ytmibohdppgijhaa
open Go.ChangeShapes Go.WideShapes Go.ChangeAt Go.RowKit

theorem eql_met (x1 x2 y1 y2 : Int) (w : World) : Sem.run Try.prog (binOp .eql 40 (.agg #[.int .i64 x1, .int .i64 x2]) (.agg #[.int .i64 y1, .int .i64 y2])) w = .ok (.bool (x1 == y1 && x2 == y2)) w := by
  have u3 := Try.underlying3
  have a3 := Try.isAgg3
  have z3 := Try.sizeOf3
  have hS : Try.prog.underlying 40 = some (.struct (Try.prog.fieldsOf 40)) := by kernel_rfl
  have hp : Try.prog.stoodInHeld 40 = false := by kernel_rfl
  rw [run_eql_struct, show (10000 : Nat) = 9999 + 1 from rfl, run_equalIn_agg w 9999 40 _ _ hS hp]
  simp only [Program.fieldsOf, Try.underlying40]
  go_simp
  by_cases h1 : x1 = y1 <;> by_cases h2 : x2 = y2 <;> simp [h1, h2]
theorem guard_met (op : BinOp) (a b : Operand) (xs ys : Array Value) (w : World) : Sem.run Try.prog (eqGuard op 40 a b (.agg xs) (.agg ys)) w = .ok () w := run_eqGuard_agg w op 40 a b xs ys (by kernel_rfl)
theorem eql_step (x1 x2 y1 y2 : Int) (w : World) : Sem.run Try.prog (binOp .eql 44 (.agg #[.int .i64 x1, .int .i64 x2]) (.agg #[.int .i64 y1, .int .i64 y2])) w = .ok (.bool (x1 == y1 && x2 == y2)) w := by
  have u3 := Try.underlying3
  have a3 := Try.isAgg3
  have z3 := Try.sizeOf3
  have hS : Try.prog.underlying 44 = some (.struct (Try.prog.fieldsOf 44)) := by kernel_rfl
  have hp : Try.prog.stoodInHeld 44 = false := by kernel_rfl
  rw [run_eql_struct, show (10000 : Nat) = 9999 + 1 from rfl, run_equalIn_agg w 9999 44 _ _ hS hp]
  simp only [Program.fieldsOf, Try.underlying44]
  go_simp
  by_cases h1 : x1 = y1 <;> by_cases h2 : x2 = y2 <;> simp [h1, h2]
theorem guard_step (op : BinOp) (a b : Operand) (xs ys : Array Value) (w : World) : Sem.run Try.prog (eqGuard op 44 a b (.agg xs) (.agg ys)) w = .ok () w := run_eqGuard_agg w op 44 a b xs ys (by kernel_rfl)

theorem wpList_eql_met {w : World} {ops : Array Oper} {rest : List Oper} {o : Oper} {a : Act} {Q : Exit → Act → World → Prop} (hg : o.guard = none) (x y : Operand) (hop : o.op = Op.binOp .eql 40 x y 40) (x1 x2 y1 y2 : Int)
    (hx : a.eval x = .agg #[.int .i64 x1, .int .i64 x2]) (hy : a.eval y = .agg #[.int .i64 y1, .int .i64 y2]) (b : Bool) (hb : (x1 == y1 && x2 == y2) = b) (hK : wpList Try.prog ops Q rest (a.put o.dst (.bool b)) w) : wpList Try.prog ops Q (o :: rest) a w := by
  refine wpList_plain hg fun K' hK' => ?_
  have hrun := eql_met x1 x2 y1 y2 w
  have hgrd := guard_met .eql x y #[.int .i64 x1, .int .i64 x2] #[.int .i64 y1, .int .i64 y2] w
  subst hb
  unfold Oper.wp
  simp only [execOp, hop]
  simp [hx, hy, hrun, hgrd, Result.andThen]
  exact hK' _ _ hK
theorem wpList_build_met {w : World} {ops : Array Oper} {rest : List Oper} {o : Oper} {a : Act} {Q : Exit → Act → World → Prop} (hg : o.guard = none) (x y : Operand) (hop : o.op = Op.build 40 #[(0, x), (1, y)]) (x1 x2 : Int)
    (hx : a.eval x = .int .i64 x1) (hy : a.eval y = .int .i64 x2) (hK : wpList Try.prog ops Q rest (a.put o.dst (.agg #[.int .i64 x1, .int .i64 x2])) w) : wpList Try.prog ops Q (o :: rest) a w := by
  refine wpList_plain hg fun K' hK' => ?_
  have hrun : (Instr.build 40 #[(0, .int .i64 x1), (1, .int .i64 x2)]).run Try.prog w = .ok (.agg #[.int .i64 x1, .int .i64 x2]) w := by kernel_rfl
  unfold Oper.wp
  simp only [execOp, hop]
  simp [hx, hy, hrun, Result.andThen]
  exact hK' _ _ hK
theorem wpList_eql_stp {w : World} {ops : Array Oper} {rest : List Oper} {o : Oper} {a : Act} {Q : Exit → Act → World → Prop} (hg : o.guard = none) (x y : Operand) (hop : o.op = Op.binOp .eql 44 x y 44) (x1 x2 y1 y2 : Int)
    (hx : a.eval x = .agg #[.int .i64 x1, .int .i64 x2]) (hy : a.eval y = .agg #[.int .i64 y1, .int .i64 y2]) (b : Bool) (hb : (x1 == y1 && x2 == y2) = b) (hK : wpList Try.prog ops Q rest (a.put o.dst (.bool b)) w) : wpList Try.prog ops Q (o :: rest) a w := by
  refine wpList_plain hg fun K' hK' => ?_
  have hrun := eql_step x1 x2 y1 y2 w
  have hgrd := guard_step .eql x y #[.int .i64 x1, .int .i64 x2] #[.int .i64 y1, .int .i64 y2] w
  subst hb
  unfold Oper.wp
  simp only [execOp, hop]
  simp [hx, hy, hrun, hgrd, Result.andThen]
  exact hK' _ _ hK
theorem wpList_build_stp {w : World} {ops : Array Oper} {rest : List Oper} {o : Oper} {a : Act} {Q : Exit → Act → World → Prop} (hg : o.guard = none) (x y : Operand) (hop : o.op = Op.build 44 #[(0, x), (1, y)]) (x1 x2 : Int)
    (hx : a.eval x = .int .i64 x1) (hy : a.eval y = .int .i64 x2) (hK : wpList Try.prog ops Q rest (a.put o.dst (.agg #[.int .i64 x1, .int .i64 x2])) w) : wpList Try.prog ops Q (o :: rest) a w := by
  refine wpList_plain hg fun K' hK' => ?_
  have hrun : (Instr.build 44 #[(0, .int .i64 x1), (1, .int .i64 x2)]).run Try.prog w = .ok (.agg #[.int .i64 x1, .int .i64 x2]) w := by kernel_rfl
  unfold Oper.wp
  simp only [execOp, hop]
  simp [hx, hy, hrun, Result.andThen]
  exact hK' _ _ hK
theorem vmay_any (s : Int) (w : World) : Calls Try.prog 14 #[.int .i64 s] w fun e w' => e = .returned (.bool (mayV s)) ∧ w = w' := by
  unfold mayV
  by_cases a : 0 ≤ s
  · simp only [a, decide_true, Bool.true_and]
    go_enter Try.func14, Try.ntmps14
    go_wp2
    go_ret
    exact ⟨rfl, rfl⟩
  · simp only [a, decide_false, Bool.false_and]
    go_enter Try.func14, Try.ntmps14
    go_wp2
    go_ret
    exact ⟨rfl, rfl⟩
theorem vmeant_any (k : Int) (w : World) : Calls Try.prog 22 #[.int .i64 k] w fun e w' => e = .returned (.int .i64 (mnt k)) ∧ w = w' := by
  unfold mnt
  by_cases a : k = 13
  · subst a
    go_enter Try.func22, Try.ntmps22
    go_wp2
    go_ret
    exact ⟨rfl, rfl⟩
  · by_cases b : k = 14
    · subst b
      go_enter Try.func22, Try.ntmps22
      go_wp2
      go_ret
      exact ⟨rfl, rfl⟩
    · rw [if_neg a, if_neg b]
      have qa : (k == 13) = false := by simp [a]
      have qb : (k == 14) = false := by simp [b]
      clear a b
      go_enter Try.func22, Try.ntmps22
      go_wp2
      go_ret
      exact ⟨rfl, rfl⟩
theorem vfirst_any (c : Bool) (w : World) : Calls Try.prog 23 #[.bool c] w fun e w' => e = .returned (.tuple #[.int .i64 (nxS 0 6 c), .int .i64 (nxK 0 6 c)]) ∧ w = w' := by
  cases c
  · go_enter Try.func23, Try.ntmps23
    go_wp2
    go_ret2
    exact ⟨rfl, rfl⟩
  · go_enter Try.func23, Try.ntmps23
    go_wp2
    go_ret2
    exact ⟨rfl, rfl⟩
theorem vdec_any (s : Int) (w : World) : Calls Try.prog 12 #[.int .i64 s] w fun e w' => e = .returned (.tuple #[.bool (yesV s), .bool (finV s)]) ∧ w = w' := by
  rcases st_cases s with rfl | rfl | rfl | rfl | rfl | rfl | h
  case inr.inr.inr.inr.inr.inr =>
    have e1 : yesV s = false := by unfold yesV; simp; omega
    have e2 : finV s = false := by unfold finV; simp; omega
    rw [e1, e2]
    have q2 : (s == 2) = false := by simp; omega
    have q3 : (s == 3) = false := by simp; omega
    have q4 : (s == 4) = false := by simp; omega
    have q5 : (s == 5) = false := by simp; omega
    clear h e1 e2
    go_enter Try.func12, Try.ntmps12
    go_wp2
    go_ret2
    exact ⟨rfl, rfl⟩
  all_goals
    go_enter Try.func12, Try.ntmps12
    go_wp2
    go_ret2
    exact ⟨rfl, rfl⟩
theorem vfin_any (s : Int) (w : World) : Calls Try.prog 16 #[.int .i64 s] w fun e w' => e = .returned (.bool (finV s)) ∧ w = w' := by
  go_enter Try.func16, Try.ntmps16
  go_wp2_with (go_at_call 12; refine (vdec_any _ _).mono ?_; rintro e u ⟨rfl, rfl⟩)
  go_ret
  exact ⟨rfl, rfl⟩
/-- A state's name. -/
def nmV (s : Int) : ByteArray :=
  if s = 0 then ⟨#[110, 111, 110, 101]⟩ else if s = 1 then ⟨#[114, 101, 97, 100, 121]⟩ else if s = 2 then ⟨#[121, 101, 115]⟩ else if s = 3 then ⟨#[110, 111]⟩
  else if s = 4 then ⟨#[102, 111, 114, 99, 101, 100, 32, 121, 101, 115]⟩ else if s = 5 then ⟨#[102, 111, 114, 99, 101, 100, 32, 110, 111]⟩ else ByteArray.empty
theorem vname_any (s : Int) (w : World) : Calls Try.prog 18 #[.int .i64 s] w fun e w' => e = .returned (.string (nmV s)) ∧ w = w' := by
  rcases st_cases s with rfl | rfl | rfl | rfl | rfl | rfl | h
  case inr.inr.inr.inr.inr.inr =>
    have e : nmV s = ByteArray.empty := by unfold nmV; rw [if_neg, if_neg, if_neg, if_neg, if_neg, if_neg] <;> omega
    rw [e]
    have q0 : (s == 0) = false := by simp; omega
    have q1 : (s == 1) = false := by simp; omega
    have q2 : (s == 2) = false := by simp; omega
    have q3 : (s == 3) = false := by simp; omega
    have q4 : (s == 4) = false := by simp; omega
    have q5 : (s == 5) = false := by simp; omega
    clear h e
    go_enter Try.func18, Try.ntmps18
    go_wp2
    go_ret
    exact ⟨rfl, rfl⟩
  all_goals
    go_enter Try.func18, Try.ntmps18
    go_wp2
    go_ret
    exact ⟨rfl, rfl⟩
end Go.Proofs.Ytmibohdppgijhaa
