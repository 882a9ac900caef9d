/-
  Own texts put together: OrdB, VotM, FrcN.
-/
import Derived.Test.YtepclljoiccieaaGreatDoorRows
import Derived.WalkKit
import Derived.Below
/-
  Small things of use everywhere.
-/
namespace Go.Proofs.YtepclljoiccieaaGreatDoor
open Go.RowKit

theorem hide {P : Prop} (h : P) : Hid P := h
theorem bel_on' {w w1 w2 : World} (h : Below w.heap.size w w1) (h2 : Below w1.heap.size w1 w2) : Below w.heap.size w w2 := h.trans (h2.mono h.size)
theorem ret_bool {a b : Bool} (h : a = b) : Ending.returned (.bool a) = .returned (.bool b) := by rw [h]
theorem cellL {w w' : World} {p : Addr} {v : Value} (h : w.cell? p = some v) (hb : Below w.heap.size w w') : w'.cell? p = some v := (hb.cell (World.block_lt_of_cell? _ _ h)).trans h
theorem ret_int {k : IntKind} {a b : Int} (h : a = b) : Ending.returned (.int k a) = .returned (.int k b) := by rw [h]
theorem cell_of {w : World} {b i : Nat} {cs : Array Value} {t : TypeId} {f : Nat × Nat} (h : w.heap[b]? = some (.cells cs t f)) : w.cell? ⟨b, i, none⟩ = cs[i]? := by
  unfold World.cell?
  simp only [h]
  rfl
end Go.Proofs.YtepclljoiccieaaGreatDoor
/-
  The states of one who decides with others, plainly.
-/
namespace Go.Proofs.YtepclljoiccieaaGreatDoor
open Go.RowKit

/-- By which kind a message is gone by. -/
def mnt (k : Int) : Int := if k = 13 then 9 else if k = 14 then 10 else k
def mayV (s : Int) : Bool := decide (0 ≤ s) && decide (s ≤ 5)
def finV (s : Int) : Bool := decide (2 ≤ s) && decide (s ≤ 5)
def yesV (s : Int) : Bool := decide (s = 2) || decide (s = 4)
/-- The state behind a message. -/
def nxS (s m : Int) (can : Bool) : Int :=
  if m = 6 then (if s = 0 then (if can = true then 1 else 3) else s)
  else if m = 9 then (if s = 1 then 2 else s)
  else if m = 10 then (if s = 0 then 3 else if s = 1 then 3 else s)
  else if m = 12 then (if s = 0 then 3 else s)
  else s
/-- The answer's kind. -/
def nxK (s m : Int) (can : Bool) : Int :=
  if m = 6 then (if s = 0 then (if can = true then 7 else 8) else if s = 1 then 7 else if s = 4 then 7 else if s = 3 then 8 else if s = 5 then 8 else 0)
  else if m = 9 then (if s = 1 then 11 else if s = 2 then 11 else if s = 4 then 11 else if s = 5 then 17 else 0)
  else if m = 10 then (if s = 0 then 11 else if s = 1 then 11 else if s = 3 then 11 else if s = 5 then 11 else if s = 4 then 17 else 0)
  else if m = 12 then (if s = 0 then 14 else if s = 3 then 14 else if s = 2 then 13 else 0)
  else 0
/-- May the one be behind the other? -/
def folV (p s : Int) : Bool := decide (s = p) || decide (p = 0 ∧ (s = 1 ∨ s = 3)) || decide (p = 1 ∧ 2 ≤ s ∧ s ≤ 5)
/-- How many from the one behind p on. -/
def legGo (p : Int) : List Int → Nat
  | [] => 0
  | s :: r => if folV p s = true then legGo s r + 1 else 0
def legV : List Int → Nat
  | [] => 0
  | s :: r => if s = 0 then legGo 0 r + 1 else 0

theorem st_cases (s : Int) : s = 0 ∨ s = 1 ∨ s = 2 ∨ s = 3 ∨ s = 4 ∨ s = 5 ∨ (s < 0 ∨ 5 < s) := by omega
theorem kd_cases (k : Int) : k = 6 ∨ k = 9 ∨ k = 13 ∨ k = 10 ∨ k = 14 ∨ k = 12 ∨ (k ≠ 6 ∧ k ≠ 9 ∧ k ≠ 13 ∧ k ≠ 10 ∧ k ≠ 14 ∧ k ≠ 12) := by omega
theorem m_cases (m : Int) : m = 6 ∨ m = 9 ∨ m = 10 ∨ m = 12 ∨ (m ≠ 6 ∧ m ≠ 9 ∧ m ≠ 10 ∧ m ≠ 12) := by omega
theorem nx_out {s m : Int} {can : Bool} (h : s < 0 ∨ 5 < s) : nxS s m can = s ∧ nxK s m can = 0 := by
  unfold nxS nxK
  constructor <;> (repeat' split) <;> first | rfl | omega
theorem nx_no {s m : Int} {can : Bool} (h : m ≠ 6 ∧ m ≠ 9 ∧ m ≠ 10 ∧ m ≠ 12) : nxS s m can = s ∧ nxK s m can = 0 := by
  unfold nxS nxK
  constructor <;> (repeat' split) <;> first | rfl | omega
theorem final_stays {s m : Int} {can : Bool} (h : finV s = true) : nxS s m can = s := by
  unfold finV at h
  simp at h
  unfold nxS
  (repeat' split) <;> first | rfl | omega
theorem nx_may {s m : Int} {can : Bool} (h : mayV s = true) : mayV (nxS s m can) = true := by
  unfold mayV at *
  simp at *
  unfold nxS
  (repeat' split) <;> first | exact h | omega
theorem nx_fol {s m : Int} {can : Bool} : folV s (nxS s m can) = true := by
  unfold folV nxS
  simp
  (repeat' split) <;> omega
theorem nx_twice {s m : Int} {can c2 : Bool} : nxS (nxS s m can) m c2 = nxS s m can ∧ nxK (nxS s m can) m c2 = nxK s m can := by
  rcases m_cases m with rfl | rfl | rfl | rfl | h
  case inr.inr.inr.inr => rw [(nx_no h).1, (nx_no h).1, (nx_no h).2, (nx_no h).2]; exact ⟨rfl, rfl⟩
  all_goals
    rcases st_cases s with rfl | rfl | rfl | rfl | rfl | rfl | h
    case inr.inr.inr.inr.inr.inr => rw [(nx_out h).1, (nx_out h).1, (nx_out h).2, (nx_out h).2]; exact ⟨rfl, rfl⟩
    all_goals (cases can <;> cases c2 <;> decide)
theorem legGo_app (l : List Int) : ∀ p s, legGo p l = l.length → folV ((p :: l).getLast (by simp)) s = true → legGo p (l ++ [s]) = l.length + 1 := by
  induction l with
  | nil => intro p s _ h; simp at h; simp [legGo, h]
  | cons x r ih =>
    intro p s h1 h2
    unfold legGo at h1
    by_cases e : folV p x = true
    · rw [if_pos e] at h1
      have := ih x s (by simpa using h1) (by simpa using h2)
      show (if folV p x = true then legGo x (r ++ [s]) + 1 else 0) = _
      rw [if_pos e, this]
      simp
    · rw [if_neg e] at h1; simp at h1
theorem legGo_le (l : List Int) : ∀ p, legGo p l ≤ l.length := by
  induction l with
  | nil => intro p; simp [legGo]
  | cons x r ih => intro p; unfold legGo; split; have := ih x; simp; omega; simp
theorem drop_cons {l : List Int} {k : Nat} (h : k < l.length) : l.drop k = l.getD k 0 :: l.drop (k + 1) := by
  rw [List.drop_eq_getElem_cons h]
  simp [List.getD, h]
theorem legV_at {l : List Int} (h0 : 0 < l.length) (hz : l.getD 0 0 = 0) : legV l = legGo (l.getD 0 0) (l.drop 1) + 1 := by
  cases l with
  | nil => simp at h0
  | cons x r =>
    simp at hz
    subst hz
    simp [legV]
theorem legV_first {l : List Int} (h0 : 0 < l.length) (hz : l.getD 0 0 ≠ 0) : legV l = 0 := by
  cases l with
  | nil => simp at h0
  | cons x r =>
    simp at hz
    simp [legV, hz]
theorem legV_nil {l : List Int} (h : l.length = 0) : legV l = 0 := by
  rw [List.eq_nil_of_length_eq_zero h]; rfl
theorem leg_on {l : List Int} {k : Nat} {p : Int} (h : k < l.length) (hf : folV p (l.getD k 0) = true) : legGo p (l.drop k) = legGo (l.getD k 0) (l.drop (k + 1)) + 1 := by
  rw [drop_cons h]
  show (if folV p (l.getD k 0) = true then legGo (l.getD k 0) (l.drop (k + 1)) + 1 else 0) = _
  rw [if_pos hf]
theorem leg_off {l : List Int} {k : Nat} {p : Int} (h : k < l.length) (hf : folV p (l.getD k 0) = false) : legGo p (l.drop k) = 0 := by
  rw [drop_cons h]
  show (if folV p (l.getD k 0) = true then legGo (l.getD k 0) (l.drop (k + 1)) + 1 else 0) = _
  rw [if_neg (by rw [hf]; decide)]
theorem leg_end {l : List Int} {k : Nat} {p : Int} (h : l.length ≤ k) : legGo p (l.drop k) = 0 := by
  rw [List.drop_of_length_le h]; rfl
theorem folV_cases (p s : Int) : folV p s = true ↔ (s = p ∨ (p = 0 ∧ (s = 1 ∨ s = 3)) ∨ (p = 1 ∧ finV s = true)) := by
  unfold folV finV
  simp
  omega
end Go.Proofs.YtepclljoiccieaaGreatDoor
/-
  What an operator forces, plainly: the state, the error.
-/
namespace Go.Proofs.YtepclljoiccieaaGreatDoor
open Go.RowKit

def frcE (s : Int) : Int := if mayV s = true then (if s = 1 then 0 else 7) else 1
def frcS (s : Int) (y : Bool) : Int := if s = 1 then (if y = true then 4 else 5) else 0
end Go.Proofs.YtepclljoiccieaaGreatDoor
