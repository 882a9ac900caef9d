/-
  Contracts: what may happen (package flow's past), Legal.
-/
import Derived.Test.YtdoejppnifoebaaFlwA
import Derived.Test.YtdoejppnifoebaaFlwM
import Derived.Test.YtdoejppnifoebaaOrdC3
import Derived.Test.YtdoejppnifoebaaOrdE
import Derived.Laws.StructEq
namespace Go.Proofs.Ytdoejppnifoebaa
open Go.ChangeShapes Go.WideShapes Go.ChangeAt Go.RowKit

theorem eql_act (x1 x2 y1 y2 : Int) (w : World) : Sem.run Try.prog (binOp .eql 33 (.agg #[.int .i64 x1, .int .i64 x2]) (.agg #[.int .i64 y1, .int .i64 y2])) w = .ok (.bool (x1 == y1 && x2 == y2)) w := by
  have u3 := Try.underlying3
  have a3 := Try.isAgg3
  have z3 := Try.sizeOf3
  have hS : Try.prog.underlying 33 = some (.struct (Try.prog.fieldsOf 33)) := by kernel_rfl
  have hp : Try.prog.stoodInHeld 33 = false := by kernel_rfl
  rw [run_eql_struct, show (10000 : Nat) = 9999 + 1 from rfl, run_equalIn_agg w 9999 33 _ _ hS hp]
  simp only [Program.fieldsOf, Try.underlying33]
  go_simp
  by_cases h1 : x1 = y1 <;> by_cases h2 : x2 = y2 <;> simp [h1, h2]
theorem guard_act (op : BinOp) (a b : Operand) (xs ys : Array Value) (w : World) : Sem.run Try.prog (eqGuard op 33 a b (.agg xs) (.agg ys)) w = .ok () w := run_eqGuard_agg w op 33 a b xs ys (by kernel_rfl)

def mDone (n d u k s : Int) : Bool := decide (k = 2) && decide (s = d) && decide (d < n) && decide (u = 0)
def mUndone (d u : Int) (z : Bool) (k s : Int) : Bool := decide (k = 5) && decide (s = d - u - 1) && decide (u < d) && z
def mCommit (n d : Int) (y z : Bool) (k s : Int) : Bool := decide (k = 13 ∧ s = 0) && decide (d = n) && !y && !z
def mAbort (y z : Bool) (k s : Int) : Bool := decide (k = 14 ∧ s = 0) && !y && !z
def mShip (y h : Bool) (k s : Int) : Bool := decide (k = 16 ∧ s = 0) && y && !h

set_option maxHeartbeats 2000000 in
theorem mdone_any (n d u : Int) (y z h : Bool) (k s : Int) (w : World) : Calls Try.prog 33 #[.agg #[.int .i64 n, .int .i64 d, .int .i64 u, .bool y, .bool z, .bool h], .agg #[.int .i64 k, .int .i64 s]] w fun e w' => e = .returned (.bool (mDone n d u k s)) ∧ Below w.heap.size w w' := by
  have HB : Hid (Below w.heap.size w ((w.alloc (.cells #[.int .i64 n, .int .i64 d, .int .i64 u, .bool y, .bool z, .bool h] 58)).alloc (.cells #[.int .i64 k, .int .i64 s] 33))) := ((Below.refl _ _).alloc (Nat.le_refl _) _).alloc (by simp) _
  by_cases h1 : k = 2
  rotate_left
  · have q : (k == 2) = false := by simpa using h1
    have HF : Hid (false = mDone n d u k s) := by show _ = _; symm; unfold mDone; simp [*]
    go_enter Try.func33, Try.ntmps33
    go_wp2
    go_ret
    exact ⟨ret_bool HF.out, HB.out⟩
  subst h1
  by_cases h2 : s = d
  rotate_left
  · have q : (s == d) = false := by simpa using h2
    have HF : Hid (false = mDone n d u 2 s) := by show _ = _; symm; unfold mDone; simp [*]
    go_enter Try.func33, Try.ntmps33
    go_wp2
    go_ret
    exact ⟨ret_bool HF.out, HB.out⟩
  subst h2
  by_cases h3 : s < n
  rotate_left
  · have q : decide (s < n) = false := by simpa using h3
    have HF : Hid (false = mDone n s u 2 s) := by show _ = _; symm; unfold mDone; simp [*]
    go_enter Try.func33, Try.ntmps33
    go_wp2
    go_ret
    exact ⟨ret_bool HF.out, HB.out⟩
  by_cases h4 : u = 0
  rotate_left
  · have q : (u == 0) = false := by simpa using h4
    have HF : Hid (false = mDone n s u 2 s) := by show _ = _; symm; unfold mDone; simp [*]
    go_enter Try.func33, Try.ntmps33
    go_wp2
    go_ret
    exact ⟨ret_bool HF.out, HB.out⟩
  subst h4
  have HF : Hid (true = mDone n s 0 2 s) := by show _ = _; symm; unfold mDone; simp [*]
  go_enter Try.func33, Try.ntmps33
  go_wp2
  go_ret
  exact ⟨ret_bool HF.out, HB.out⟩

set_option maxHeartbeats 2000000 in
theorem mundone_any (n d u : Int) (y z h : Bool) (k s : Int) (hd : 0 ≤ d ∧ d ≤ 1000) (hu : 0 ≤ u ∧ u ≤ 1000) (w : World) : Calls Try.prog 34 #[.agg #[.int .i64 n, .int .i64 d, .int .i64 u, .bool y, .bool z, .bool h], .agg #[.int .i64 k, .int .i64 s]] w fun e w' => e = .returned (.bool (mUndone d u z k s)) ∧ Below w.heap.size w w' := by
  have HB : Hid (Below w.heap.size w ((w.alloc (.cells #[.int .i64 n, .int .i64 d, .int .i64 u, .bool y, .bool z, .bool h] 58)).alloc (.cells #[.int .i64 k, .int .i64 s] 33))) := ((Below.refl _ _).alloc (Nat.le_refl _) _).alloc (by simp) _
  by_cases h1 : k = 5
  rotate_left
  · have q : (k == 5) = false := by simpa using h1
    have HF : Hid (false = mUndone d u z k s) := by show _ = _; symm; unfold mUndone; simp [*]
    go_enter Try.func34, Try.ntmps34
    go_wp2
    go_ret
    exact ⟨ret_bool HF.out, HB.out⟩
  subst h1
  obtain ⟨hd0, hd1⟩ := hd
  obtain ⟨hu0, hu1⟩ := hu
  by_cases h2 : s = d - u - 1
  rotate_left
  · have q : (s == d - u - 1) = false := by simpa using h2
    have HF : Hid (false = mUndone d u z 5 s) := by show _ = _; symm; unfold mUndone; simp [*]
    go_enter Try.func34, Try.ntmps34
    go_wp2
    go_ret
    exact ⟨ret_bool HF.out, HB.out⟩
  subst h2
  by_cases h3 : u < d
  rotate_left
  · have q3 : decide (u < d) = false := by simpa using h3
    have HF : Hid (false = mUndone d u z 5 (d - u - 1)) := by show _ = _; symm; unfold mUndone; simp [*]
    go_enter Try.func34, Try.ntmps34
    go_wp2
    go_ret
    exact ⟨ret_bool HF.out, HB.out⟩
  cases z
  · have HF : Hid (false = mUndone d u false 5 (d - u - 1)) := by show _ = _; symm; unfold mUndone; simp [*]
    go_enter Try.func34, Try.ntmps34
    go_wp2
    go_ret
    exact ⟨ret_bool HF.out, HB.out⟩
  · have HF : Hid (true = mUndone d u true 5 (d - u - 1)) := by show _ = _; symm; unfold mUndone; simp [*]
    go_enter Try.func34, Try.ntmps34
    go_wp2
    go_ret
    exact ⟨ret_bool HF.out, HB.out⟩

set_option maxHeartbeats 2000000 in
theorem mcommit_any (n d u : Int) (y z h : Bool) (k s : Int) (w : World) : Calls Try.prog 35 #[.agg #[.int .i64 n, .int .i64 d, .int .i64 u, .bool y, .bool z, .bool h], .agg #[.int .i64 k, .int .i64 s]] w fun e w' => e = .returned (.bool (mCommit n d y z k s)) ∧ Below w.heap.size w w' := by
  have HB : Hid (Below w.heap.size w ((w.alloc (.cells #[.int .i64 n, .int .i64 d, .int .i64 u, .bool y, .bool z, .bool h] 58)).alloc (.cells #[.int .i64 k, .int .i64 s] 33))) := ((Below.refl _ _).alloc (Nat.le_refl _) _).alloc (by simp) _
  have hne := eql_act
  have hgd := guard_act
  by_cases h1 : k = 13 ∧ s = 0
  rotate_left
  · have q : (k == 13 && s == 0) = false := by rw [Bool.and_eq_false_iff]; by_cases e : k = 13; exact .inr (by simpa using fun e2 => h1 ⟨e, e2⟩); exact .inl (by simpa using e)
    have HF : Hid (false = mCommit n d y z k s) := by show _ = _; symm; unfold mCommit; simp [*]
    go_enter Try.func35, Try.ntmps35
    go_wp2
    go_ret
    exact ⟨ret_bool HF.out, HB.out⟩
  obtain ⟨rfl, rfl⟩ := h1
  by_cases h2 : d = n
  rotate_left
  · have q2 : (d == n) = false := by simpa using h2
    have HF : Hid (false = mCommit n d y z 13 0) := by show _ = _; symm; unfold mCommit; simp [*]
    go_enter Try.func35, Try.ntmps35
    go_wp2
    go_ret
    exact ⟨ret_bool HF.out, HB.out⟩
  subst h2
  cases y
  rotate_left
  · have HF : Hid (false = mCommit d d true z 13 0) := by show _ = _; symm; unfold mCommit; simp [*]
    go_enter Try.func35, Try.ntmps35
    go_wp2
    go_ret
    exact ⟨ret_bool HF.out, HB.out⟩
  cases z
  rotate_left
  · have HF : Hid (false = mCommit d d false true 13 0) := by show _ = _; symm; unfold mCommit; simp [*]
    go_enter Try.func35, Try.ntmps35
    go_wp2
    go_ret
    exact ⟨ret_bool HF.out, HB.out⟩
  have HF : Hid (true = mCommit d d false false 13 0) := by show _ = _; symm; unfold mCommit; simp [*]
  go_enter Try.func35, Try.ntmps35
  go_wp2
  go_ret
  exact ⟨ret_bool HF.out, HB.out⟩

set_option maxHeartbeats 2000000 in
theorem mabort_any (n d u : Int) (y z h : Bool) (k s : Int) (w : World) : Calls Try.prog 36 #[.agg #[.int .i64 n, .int .i64 d, .int .i64 u, .bool y, .bool z, .bool h], .agg #[.int .i64 k, .int .i64 s]] w fun e w' => e = .returned (.bool (mAbort y z k s)) ∧ Below w.heap.size w w' := by
  have HB : Hid (Below w.heap.size w ((w.alloc (.cells #[.int .i64 n, .int .i64 d, .int .i64 u, .bool y, .bool z, .bool h] 58)).alloc (.cells #[.int .i64 k, .int .i64 s] 33))) := ((Below.refl _ _).alloc (Nat.le_refl _) _).alloc (by simp) _
  have hne := eql_act
  have hgd := guard_act
  by_cases h1 : k = 14 ∧ s = 0
  rotate_left
  · have q : (k == 14 && s == 0) = false := by rw [Bool.and_eq_false_iff]; by_cases e : k = 14; exact .inr (by simpa using fun e2 => h1 ⟨e, e2⟩); exact .inl (by simpa using e)
    have HF : Hid (false = mAbort y z k s) := by show _ = _; symm; unfold mAbort; simp [*]
    go_enter Try.func36, Try.ntmps36
    go_wp2
    go_ret
    exact ⟨ret_bool HF.out, HB.out⟩
  obtain ⟨rfl, rfl⟩ := h1
  cases y
  rotate_left
  · have HF : Hid (false = mAbort true z 14 0) := by show _ = _; symm; unfold mAbort; simp [*]
    go_enter Try.func36, Try.ntmps36
    go_wp2
    go_ret
    exact ⟨ret_bool HF.out, HB.out⟩
  cases z
  rotate_left
  · have HF : Hid (false = mAbort false true 14 0) := by show _ = _; symm; unfold mAbort; simp [*]
    go_enter Try.func36, Try.ntmps36
    go_wp2
    go_ret
    exact ⟨ret_bool HF.out, HB.out⟩
  have HF : Hid (true = mAbort false false 14 0) := by show _ = _; symm; unfold mAbort; simp [*]
  go_enter Try.func36, Try.ntmps36
  go_wp2
  go_ret
  exact ⟨ret_bool HF.out, HB.out⟩

set_option maxHeartbeats 2000000 in
theorem mship_any (n d u : Int) (y z h : Bool) (k s : Int) (w : World) : Calls Try.prog 37 #[.agg #[.int .i64 n, .int .i64 d, .int .i64 u, .bool y, .bool z, .bool h], .agg #[.int .i64 k, .int .i64 s]] w fun e w' => e = .returned (.bool (mShip y h k s)) ∧ Below w.heap.size w w' := by
  have HB : Hid (Below w.heap.size w ((w.alloc (.cells #[.int .i64 n, .int .i64 d, .int .i64 u, .bool y, .bool z, .bool h] 58)).alloc (.cells #[.int .i64 k, .int .i64 s] 33))) := ((Below.refl _ _).alloc (Nat.le_refl _) _).alloc (by simp) _
  have hne := eql_act
  have hgd := guard_act
  by_cases h1 : k = 16 ∧ s = 0
  rotate_left
  · have q : (k == 16 && s == 0) = false := by rw [Bool.and_eq_false_iff]; by_cases e : k = 16; exact .inr (by simpa using fun e2 => h1 ⟨e, e2⟩); exact .inl (by simpa using e)
    have HF : Hid (false = mShip y h k s) := by show _ = _; symm; unfold mShip; simp [*]
    go_enter Try.func37, Try.ntmps37
    go_wp2
    go_ret
    exact ⟨ret_bool HF.out, HB.out⟩
  obtain ⟨rfl, rfl⟩ := h1
  cases y
  · have HF : Hid (false = mShip false h 16 0) := by show _ = _; symm; unfold mShip; simp [*]
    go_enter Try.func37, Try.ntmps37
    go_wp2
    go_ret
    exact ⟨ret_bool HF.out, HB.out⟩
  cases h
  rotate_left
  · have HF : Hid (false = mShip true true 16 0) := by show _ = _; symm; unfold mShip; simp [*]
    go_enter Try.func37, Try.ntmps37
    go_wp2
    go_ret
    exact ⟨ret_bool HF.out, HB.out⟩
  have HF : Hid (true = mShip true false 16 0) := by show _ = _; symm; unfold mShip; simp [*]
  go_enter Try.func37, Try.ntmps37
  go_wp2
  go_ret
  exact ⟨ret_bool HF.out, HB.out⟩

end Go.Proofs.Ytdoejppnifoebaa
