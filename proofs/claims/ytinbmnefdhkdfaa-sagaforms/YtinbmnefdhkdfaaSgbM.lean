/-
  Plain facts: what is to be sent, written out; what may be, in the reference's words.
-/
import Derived.Test.YtinbmnefdhkdfaaSgaM
import Derived.Test.YtinbmnefdhkdfaaSgaP
namespace Go.Proofs.Ytinbmnefdhkdfaa
open Go

/-- The first one that is not so, of m from j on; the last one that is not so, of the first m. -/
def firstF (l : List Bool) : Nat → Nat → Option Nat
  | _, 0 => none
  | j, m + 1 => if l.getD j false then firstF l (j + 1) m else some j
def lastF (l : List Bool) : Nat → Option Nat
  | 0 => none
  | m + 1 => if l.getD m false then lastF l m else some m
def unL (o : Od) (f : Fa) : List Mg := match lastF f.un o.steps.length with | none => [] | some i => [undoM o i]
def askL (o : Od) (f : Fa) : List Mg := match firstF f.dn 0 o.steps.length with | none => prepL o | some i => [doM o i]
def shipL (o : Od) (f : Fa) : List Mg := if f.ship then [] else [shipM o]
def needF (o : Od) (f : Fa) : List Mg := if f.turned then decL o f 10 ++ unL o f else if f.yes then decL o f 9 ++ shipL o f else askL o f

theorem bck_at (o : Od) (f : Fa) (m : Nat) : bckS o f (4, (m : Int)) = if f.un.getD m false then ([], false) else ([undoM o m], true) := by
  unfold bckS
  dsimp only
  rw [if_neg (by decide), if_pos rfl, Int.toNat_natCast]
theorem fwd_at (o : Od) (f : Fa) (m : Nat) : fwdS o f (1, (m : Int)) = if f.dn.getD m false then ([], false) else ([doM o m], true) := by
  unfold fwdS
  dsimp only
  rw [if_pos rfl, Int.toNat_natCast]
theorem run_dn (o : Od) (f : Fa) : ∀ (m : Nat) (acc : List Mg), runS (bckS o f) (dnL 4 m) acc = acc ++ (match lastF f.un m with | none => [] | some i => [undoM o i])
  | 0, acc => by rw [dnL, runS, lastF, List.append_nil]
  | m + 1, acc => by
    rw [dnL, runS, lastF, bck_at]
    cases h : f.un.getD m false
    · rfl
    · simp only [if_true, Bool.false_eq_true, if_false, List.append_nil]
      exact run_dn o f m acc
theorem run_up (o : Od) (f : Fa) (R : List (Int × Int)) : ∀ (m j : Nat) (acc : List Mg), runS (fwdS o f) (upL 1 j m ++ R) acc = (match firstF f.dn j m with | none => runS (fwdS o f) R acc | some i => acc ++ [doM o i])
  | 0, j, acc => by rw [upL, firstF, List.nil_append]
  | m + 1, j, acc => by
    rw [upL, List.cons_append, runS, firstF, fwd_at]
    cases h : f.dn.getD j false
    · rfl
    · simp only [if_true, Bool.false_eq_true, if_false, List.append_nil]
      exact run_up o f R m (j + 1) acc
theorem first_all {l : List Bool} (h : allB l = true) : ∀ (m j : Nat), j + m ≤ l.length → firstF l j m = none
  | 0, _, _ => rfl
  | m + 1, j, hl => by
    rw [firstF]
    have : l.getD j false = true := by
      rw [List.getD, List.getElem?_eq_getElem (by omega)]
      exact allB_mem.1 h _ (List.getElem_mem _)
    rw [this, if_pos rfl]
    exact first_all h m (j + 1) (by omega)
theorem next_need {o : Od} {f : Fa} (h : mayF o f = true) : nextF o f = needF o f := by
  unfold nextF needF
  rw [if_neg (by simp [h])]
  unfold mayF at h
  simp only [Bool.and_eq_true, decide_eq_true_eq] at h
  obtain ⟨⟨⟨⟨⟨hm, h1⟩, h2⟩, h3⟩, h4⟩, h5⟩ := h
  cases ht : f.turned
  · simp only [Bool.false_eq_true, if_false]
    rw [planL_may hm, run_up]
    unfold donF at h4
    rw [ht] at h4
    simp only [Bool.false_eq_true, if_false] at h4
    cases hy : f.yes
    · simp only [Bool.false_eq_true, if_false]
      unfold askL
      cases hf : firstF f.dn 0 o.steps.length with
      | some i => simp
      | none => simp [runS, fwdS, hy]
    · rw [hy] at h4
      simp only [if_true] at h4 ⊢
      rw [first_all h4 _ _ (by omega)]
      unfold shipL
      cases hs : f.ship <;> simp [runS, fwdS, hy, hs]
  · simp only [if_true]
    rw [backL_may hm, runS]
    have : bckS o f (10, 0) = (decL o f 10, false) := rfl
    rw [this]
    simp only [Bool.false_eq_true, if_false, List.nil_append]
    rw [run_dn]
    rfl
theorem next_not {o : Od} {f : Fa} (h : mayF o f = false) : nextF o f = [] := by unfold nextF; rw [if_pos h]

/-! The reference's words. -/
def chainT : List Bool → Bool
  | x :: y :: r => (!x || y) && chainT (y :: r)
  | _ => true
def chainF : List Bool → Bool
  | x :: y :: r => (x || !y) && chainF (y :: r)
  | _ => true
theorem stays_short (so : Bool) (l : List Bool) (h : l.length ≤ 3) : staysB l so = if so then chainT l else chainF l := by
  match l, h with
  | [], _ => cases so <;> rfl
  | [x], _ => cases so <;> cases x <;> rfl
  | [x, y], _ => cases so <;> cases x <;> cases y <;> rfl
  | [x, y, z], _ => cases so <;> cases x <;> cases y <;> cases z <;> rfl
theorem all_chain (l : List Bool) (h : l.length ≤ 3) : allB l = true → chainF l = true := by
  match l, h with
  | [], _ => intro _; rfl
  | [x], _ => intro _; rfl
  | [x, y], _ => cases x <;> cases y <;> decide
  | [x, y, z], _ => cases x <;> cases y <;> cases z <;> decide
theorem none_chain (l : List Bool) (h : l.length ≤ 3) : hasB l true = false → chainT l = true := by
  match l, h with
  | [], _ => intro _; rfl
  | [x], _ => intro _; rfl
  | [x, y], _ => cases x <;> cases y <;> decide
  | [x, y, z], _ => cases x <;> cases y <;> cases z <;> decide
/-- May they be, in the order in which the reference asks. -/
def mayR (o : Od) (f : Fa) : Bool :=
  mayO o && decide (f.dn.length = o.steps.length) && decide (f.un.length = o.steps.length) && !(f.yes && f.turned) &&
  !(f.yes && (!allB f.dn || !(!hasB f.un true) || !f.asked)) && !(!f.turned && !(!hasB f.un true)) && !(f.ship && !f.yes) &&
  !(!f.yes && !f.turned && ((f.k0 || f.k1) || (f.d0 || f.d1))) && ((f.turned || chainF f.dn) && chainT f.un)
theorem mayO_three {o : Od} (h : mayO o = true) : o.steps.length ≤ 3 := by
  unfold mayO stepsB at h
  simp at h
  exact h.2.1
theorem may_ref (o : Od) (f : Fa) : mayR o f = mayF o f := by
  unfold mayR mayF
  cases hm : mayO o
  · rfl
  by_cases h1 : f.dn.length = o.steps.length
  rotate_left
  · rw [decide_eq_false h1]; simp
  by_cases h2 : f.un.length = o.steps.length
  rotate_left
  · rw [decide_eq_false h2]; simp
  have h3 := mayO_three hm
  have s1 := stays_short false f.dn (by omega)
  have s2 := stays_short true f.un (by omega)
  have c1 := all_chain f.dn (by omega)
  have c2 := none_chain f.un (by omega)
  simp only [Bool.false_eq_true, if_false, if_true] at s1 s2
  rw [decide_eq_true h1, decide_eq_true h2]
  unfold decF donF undF
  rw [s1, s2]
  obtain ⟨dn, un, asked, yes, turned, k0, k1, ship, d0, d1, acc⟩ := f
  dsimp only at c1 c2 ⊢
  generalize allB dn = A at *
  generalize hasB un true = N at *
  generalize chainF dn = C at *
  generalize chainT un = D at *
  clear s1 s2 h1 h2 h3 hm
  cases turned <;> cases yes <;> cases A <;> cases N <;> cases C <;> cases D <;> simp at c1 c2 ⊢ <;> cases ship <;> cases asked <;> simp <;> cases k0 <;> cases k1 <;> cases d0 <;> cases d1 <;> rfl
end Go.Proofs.Ytinbmnefdhkdfaa
