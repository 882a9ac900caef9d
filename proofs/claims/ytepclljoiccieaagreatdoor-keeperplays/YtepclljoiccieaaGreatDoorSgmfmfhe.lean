/-
  Own texts put together: VotS, VotN, FrcC, VotF.
-/
import Derived.Test.YtepclljoiccieaaGreatDoorSghaagjg
import Derived.ProofKit
import Derived.OpenShut
import Derived.WalkLawsBesides
import Derived.Outline
import Derived.Laws.StructEq
/-
  Contracts of vote's May, Final, Decided, meant, first, follows, Next.
-/
namespace Go.Proofs.YtepclljoiccieaaGreatDoor
open Go.ChangeShapes Go.WideShapes Go.ChangeAt Go.RowKit

theorem eql_met (x1 x2 y1 y2 : Int) (w : World) : Sem.run Tryz.prog (binOp .eql 125 (.agg #[.int .i64 x1, .int .i64 x2]) (.agg #[.int .i64 y1, .int .i64 y2])) w = .ok (.bool (x1 == y1 && x2 == y2)) w := by
  have u3 := Tryz.underlying3
  have a3 := Tryz.isAgg3
  have z3 := Tryz.sizeOf3
  have hS : Tryz.prog.underlying 125 = some (.struct (Tryz.prog.fieldsOf 125)) := by kernel_rfl
  have hp : Tryz.prog.stoodInHeld 125 = false := by kernel_rfl
  rw [run_eql_struct, show (10000 : Nat) = 9999 + 1 from rfl, run_equalIn_agg w 9999 125 _ _ hS hp]
  simp only [Program.fieldsOf, Tryz.underlying125]
  go_simp
  by_cases h1 : x1 = y1 <;> by_cases h2 : x2 = y2 <;> simp [h1, h2]
theorem guard_met (op : BinOp) (a b : Operand) (xs ys : Array Value) (w : World) : Sem.run Tryz.prog (eqGuard op 125 a b (.agg xs) (.agg ys)) w = .ok () w := run_eqGuard_agg w op 125 a b xs ys (by kernel_rfl)
theorem wpList_eql_met {w : World} {ops : Array Oper} {rest : List Oper} {o : Oper} {a : Act} {Q : Exit → Act → World → Prop} (hg : o.guard = none) (x y : Operand) (hop : o.op = Op.binOp .eql 125 x y 125) (x1 x2 y1 y2 : Int)
    (hx : a.eval x = .agg #[.int .i64 x1, .int .i64 x2]) (hy : a.eval y = .agg #[.int .i64 y1, .int .i64 y2]) (b : Bool) (hb : (x1 == y1 && x2 == y2) = b) (hK : wpList Tryz.prog ops Q rest (a.put o.dst (.bool b)) w) : wpList Tryz.prog ops Q (o :: rest) a w := by
  refine wpList_plain hg fun K' hK' => ?_
  have hrun := eql_met x1 x2 y1 y2 w
  have hgrd := guard_met .eql x y #[.int .i64 x1, .int .i64 x2] #[.int .i64 y1, .int .i64 y2] w
  subst hb
  unfold Oper.wp
  simp only [execOp, hop]
  simp [hx, hy, hrun, hgrd, Result.andThen]
  exact hK' _ _ hK
theorem wpList_build_met {w : World} {ops : Array Oper} {rest : List Oper} {o : Oper} {a : Act} {Q : Exit → Act → World → Prop} (hg : o.guard = none) (x y : Operand) (hop : o.op = Op.build 125 #[(0, x), (1, y)]) (x1 x2 : Int)
    (hx : a.eval x = .int .i64 x1) (hy : a.eval y = .int .i64 x2) (hK : wpList Tryz.prog ops Q rest (a.put o.dst (.agg #[.int .i64 x1, .int .i64 x2])) w) : wpList Tryz.prog ops Q (o :: rest) a w := by
  refine wpList_plain hg fun K' hK' => ?_
  have hrun : (Instr.build 125 #[(0, .int .i64 x1), (1, .int .i64 x2)]).run Tryz.prog w = .ok (.agg #[.int .i64 x1, .int .i64 x2]) w := by kernel_rfl
  unfold Oper.wp
  simp only [execOp, hop]
  simp [hx, hy, hrun, Result.andThen]
  exact hK' _ _ hK
theorem vmay_any (s : Int) (w : World) : Calls Tryz.prog 84 #[.int .i64 s] w fun e w' => e = .returned (.bool (mayV s)) ∧ w = w' := by
  unfold mayV
  by_cases a : 0 ≤ s
  · simp only [a, decide_true, Bool.true_and]
    go_enter Tryz.func84, Tryz.ntmps84
    go_wp2
    go_ret
    exact ⟨rfl, rfl⟩
  · simp only [a, decide_false, Bool.false_and]
    go_enter Tryz.func84, Tryz.ntmps84
    go_wp2
    go_ret
    exact ⟨rfl, rfl⟩
theorem vmeant_any (k : Int) (w : World) : Calls Tryz.prog 90 #[.int .i64 k] w fun e w' => e = .returned (.int .i64 (mnt k)) ∧ w = w' := by
  unfold mnt
  by_cases a : k = 13
  · subst a
    go_enter Tryz.func90, Tryz.ntmps90
    go_wp2
    go_ret
    exact ⟨rfl, rfl⟩
  · by_cases b : k = 14
    · subst b
      go_enter Tryz.func90, Tryz.ntmps90
      go_wp2
      go_ret
      exact ⟨rfl, rfl⟩
    · rw [if_neg a, if_neg b]
      have qa : (k == 13) = false := by simp [a]
      have qb : (k == 14) = false := by simp [b]
      clear a b
      go_enter Tryz.func90, Tryz.ntmps90
      go_wp2
      go_ret
      exact ⟨rfl, rfl⟩
theorem vfirst_any (c : Bool) (w : World) : Calls Tryz.prog 91 #[.bool c] w fun e w' => e = .returned (.tuple #[.int .i64 (nxS 0 6 c), .int .i64 (nxK 0 6 c)]) ∧ w = w' := by
  cases c
  · go_enter Tryz.func91, Tryz.ntmps91
    go_wp2
    go_ret2
    exact ⟨rfl, rfl⟩
  · go_enter Tryz.func91, Tryz.ntmps91
    go_wp2
    go_ret2
    exact ⟨rfl, rfl⟩
theorem vdec_any (s : Int) (w : World) : Calls Tryz.prog 73 #[.int .i64 s] w fun e w' => e = .returned (.tuple #[.bool (yesV s), .bool (finV s)]) ∧ w = w' := by
  rcases st_cases s with rfl | rfl | rfl | rfl | rfl | rfl | h
  case inr.inr.inr.inr.inr.inr =>
    have e1 : yesV s = false := by unfold yesV; simp; omega
    have e2 : finV s = false := by unfold finV; simp; omega
    rw [e1, e2]
    have q2 : (s == 2) = false := by simp; omega
    have q3 : (s == 3) = false := by simp; omega
    have q4 : (s == 4) = false := by simp; omega
    have q5 : (s == 5) = false := by simp; omega
    clear h e1 e2
    go_enter Tryz.func73, Tryz.ntmps73
    go_wp2
    go_ret2
    exact ⟨rfl, rfl⟩
  all_goals
    go_enter Tryz.func73, Tryz.ntmps73
    go_wp2
    go_ret2
    exact ⟨rfl, rfl⟩
/-- A state's name. -/
def nmV (s : Int) : ByteArray :=
  if s = 0 then ⟨#[110, 111, 110, 101]⟩ else if s = 1 then ⟨#[114, 101, 97, 100, 121]⟩ else if s = 2 then ⟨#[121, 101, 115]⟩ else if s = 3 then ⟨#[110, 111]⟩
  else if s = 4 then ⟨#[102, 111, 114, 99, 101, 100, 32, 121, 101, 115]⟩ else if s = 5 then ⟨#[102, 111, 114, 99, 101, 100, 32, 110, 111]⟩ else ByteArray.empty
end Go.Proofs.YtepclljoiccieaaGreatDoor
/-
  The contract of vote's Next.
-/
namespace Go.Proofs.YtepclljoiccieaaGreatDoor
open Go.ChangeShapes Go.WideShapes Go.ChangeAt Go.RowKit

theorem vmeant_on {k m : Int} (h : mnt k = m) (w : World) : Calls Tryz.prog 90 #[.int .i64 k] w fun e w' => e = .returned (.int .i64 m) ∧ w = w' := by
  subst h; exact vmeant_any k w
set_option maxHeartbeats 8000000 in
theorem vnext_at {k m : Int} (s : Int) (c : Bool) (w : World) (h : mnt k = m) (hs : s = 0 ∨ s = 1 ∨ s = 2 ∨ s = 3 ∨ s = 4 ∨ s = 5) (hm : m = 6 ∨ m = 9 ∨ m = 10 ∨ m = 12) :
    Calls Tryz.prog 50 #[.int .i64 s, .int .i64 k, .bool c] w fun e w' => e = .returned (.tuple #[.int .i64 (nxS s m c), .int .i64 (nxK s m c)]) ∧ w = w' := by
  have H := hide h
  clear h
  rcases hs with rfl | rfl | rfl | rfl | rfl | rfl <;> rcases hm with rfl | rfl | rfl | rfl
  all_goals
    go_enter Tryz.func50, Tryz.ntmps50
    go_wp2_with (first
      | (go_at_call 90; refine (vmeant_on H.out _).mono ?_; rintro e u ⟨rfl, rfl⟩)
      | (go_at_call 91; refine (vfirst_any _ _).mono ?_; rintro e u ⟨rfl, rfl⟩)
      | (refine wpList_build_met rfl _ _ rfl _ _ rfl rfl ?_)
      | (refine wpList_eql_met rfl _ _ rfl _ _ _ _ rfl rfl _ rfl ?_))
    go_ret2
    exact ⟨rfl, rfl⟩
set_option maxHeartbeats 2000000 in
theorem vnext_any (s k : Int) (c : Bool) (w : World) : Calls Tryz.prog 50 #[.int .i64 s, .int .i64 k, .bool c] w fun e w' => e = .returned (.tuple #[.int .i64 (nxS s (mnt k) c), .int .i64 (nxK s (mnt k) c)]) ∧ w = w' := by
  obtain ⟨m, hm⟩ : ∃ m, mnt k = m := ⟨_, rfl⟩
  rw [hm]
  have H := hide hm
  clear hm
  by_cases hs : s < 0 ∨ 5 < s
  · rw [(nx_out hs).1, (nx_out hs).2]
    have q0 : (s == 0) = false := by simp; omega
    have q1 : (s == 1) = false := by simp; omega
    have q2 : (s == 2) = false := by simp; omega
    have q3 : (s == 3) = false := by simp; omega
    have q4 : (s == 4) = false := by simp; omega
    have q5 : (s == 5) = false := by simp; omega
    clear hs
    go_enter Tryz.func50, Tryz.ntmps50
    go_wp2_with (first | (go_at_call 90; refine (vmeant_on H.out _).mono ?_; rintro e u ⟨rfl, rfl⟩) | (refine wpList_build_met rfl _ _ rfl _ _ rfl rfl ?_) | (refine wpList_eql_met rfl _ _ rfl _ _ _ _ rfl rfl _ rfl ?_))
    go_ret2
    exact ⟨rfl, rfl⟩
  by_cases hq : m ≠ 6 ∧ m ≠ 9 ∧ m ≠ 10 ∧ m ≠ 12
  · rw [(nx_no hq).1, (nx_no hq).2]
    have q0 : (m == 6) = false := by simp; omega
    have q1 : (m == 9) = false := by simp; omega
    have q2 : (m == 10) = false := by simp; omega
    have q3 : (m == 12) = false := by simp; omega
    clear hs hq
    go_enter Tryz.func50, Tryz.ntmps50
    go_wp2_with (first | (go_at_call 90; refine (vmeant_on H.out _).mono ?_; rintro e u ⟨rfl, rfl⟩) | (refine wpList_build_met rfl _ _ rfl _ _ rfl rfl ?_) | (refine wpList_eql_met rfl _ _ rfl _ _ _ _ rfl rfl _ rfl ?_))
    go_ret2
    exact ⟨rfl, rfl⟩
  exact vnext_at s c w H.out (by omega) (by omega)
end Go.Proofs.YtepclljoiccieaaGreatDoor
/-
  The contract of force's Force; the reference's.
-/
namespace Go.Proofs.YtepclljoiccieaaGreatDoor
open Go.ChangeShapes Go.WideShapes Go.ChangeAt Go.RowKit

theorem ffrc_any (s : Int) (y : Bool) (w : World) : Calls Tryz.prog 43 #[.int .i64 s, .bool y] w fun e w' => e = .returned (.tuple #[.int .i64 (frcS s y), .int .i64 (frcE s)]) ∧ w = w' := by
  have CM := vmay_any s w
  obtain ⟨m, hm⟩ : ∃ m, mayV s = m := ⟨_, rfl⟩
  by_cases h1 : s = 1
  · subst h1
    clear hm
    rw [show mayV 1 = true from rfl] at CM
    cases y
    all_goals
      go_enter Tryz.func43, Tryz.ntmps43
      go_wp2_with (go_at_call 84; refine CM.mono ?_; rintro e u ⟨rfl, rfl⟩)
      go_ret2
      exact ⟨rfl, rfl⟩
  · have e1 : frcS s y = 0 := by unfold frcS; rw [if_neg h1]
    have e2 : frcE s = if m = true then 7 else 1 := by unfold frcE; rw [hm, if_neg h1]
    have q : (s != 1) = true := by simpa using h1
    rw [hm] at CM
    rw [e1, e2]
    clear e1 e2 h1 hm
    cases m
    all_goals
      go_enter Tryz.func43, Tryz.ntmps43
      go_wp2_with (go_at_call 84; refine CM.mono ?_; rintro e u ⟨rfl, rfl⟩)
      go_ret2
      exact ⟨rfl, rfl⟩
theorem rmayq_any (s : Int) (w : World) : Calls Tryz.prog 87 #[.int .i64 s] w fun e w' => e = .returned (.bool (mayV s)) ∧ w = w' := by
  unfold mayV
  by_cases a : 0 ≤ s
  · simp only [a, decide_true, Bool.true_and]
    go_enter Tryz.func87, Tryz.ntmps87
    go_wp2
    go_ret
    exact ⟨rfl, rfl⟩
  · simp only [a, decide_false, Bool.false_and]
    go_enter Tryz.func87, Tryz.ntmps87
    go_wp2
    go_ret
    exact ⟨rfl, rfl⟩
theorem rfrc_any (s : Int) (y : Bool) (w : World) : Calls Tryz.prog 46 #[.int .i64 s, .bool y] w fun e w' => e = .returned (.tuple #[.int .i64 (frcS s y), .int .i64 (frcE s)]) ∧ w = w' := by
  have CM := rmayq_any s w
  obtain ⟨m, hm⟩ : ∃ m, mayV s = m := ⟨_, rfl⟩
  by_cases h1 : s = 1
  · subst h1
    clear hm
    rw [show mayV 1 = true from rfl] at CM
    cases y
    all_goals
      go_enter Tryz.func46, Tryz.ntmps46
      go_wp2_with (go_at_call 87; refine CM.mono ?_; rintro e u ⟨rfl, rfl⟩)
      go_ret2
      exact ⟨rfl, rfl⟩
  · have e1 : frcS s y = 0 := by unfold frcS; rw [if_neg h1]
    have e2 : frcE s = if m = true then 7 else 1 := by unfold frcE; rw [hm, if_neg h1]
    have q : (s != 1) = true := by simpa using h1
    rw [hm] at CM
    rw [e1, e2]
    clear e1 e2 h1 hm
    cases m
    all_goals
      go_enter Tryz.func46, Tryz.ntmps46
      go_wp2_with (go_at_call 87; refine CM.mono ?_; rintro e u ⟨rfl, rfl⟩)
      go_ret2
      exact ⟨rfl, rfl⟩
end Go.Proofs.YtepclljoiccieaaGreatDoor
/-
  The contract of vote's follows.
-/
namespace Go.Proofs.YtepclljoiccieaaGreatDoor
open Go.ChangeShapes Go.WideShapes Go.ChangeAt Go.RowKit

end Go.Proofs.YtepclljoiccieaaGreatDoor
