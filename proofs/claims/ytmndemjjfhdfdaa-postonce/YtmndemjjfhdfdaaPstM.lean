/-
  Plain facts on a post: what is on its way, what is lost.
-/
import Derived.Test.YtmndemjjfhdfdaaMsgM
namespace Go.Proofs.Ytmndemjjfhdfdaa
open Go

/-- A post: how many it may have, what is on its way, how many were lost. -/
structure Ps where
  most : Nat
  l : List Mg
  lost : Nat
structure GoodPs (s : Ps) : Prop where
  m1 : 1 ≤ s.most
  m2 : s.most ≤ 256
  len : s.l.length ≤ s.most
  lo : s.lost ≤ 1000000
def zeroM : Mg := ⟨0, 0, 0, 0, 0, 0, 0⟩
def clampP (most : Int) : Nat := if most < 1 then 1 else if 256 < most then 256 else most.toNat
def newPs (most : Int) : Ps := ⟨clampP most, [], 0⟩
def put1 (s : Ps) (m : Mg) : Ps := if s.l.length < s.most then ⟨s.most, s.l ++ [m], s.lost⟩ else ⟨s.most, (s.l ++ [m]).eraseIdx 0, min (s.lost + 1) 1000000⟩
def putPs (s : Ps) : List Mg → Ps
  | [] => s
  | m :: r => putPs (put1 s m) r
def inP (l : List Mg) (i : Int) : Bool := decide (0 ≤ i ∧ i < (l.length : Int))
def atPs (l : List Mg) (i : Int) : Mg := if inP l i = true then l.getD i.toNat zeroM else zeroM
def takPs (s : Ps) (i : Int) : Ps := if inP s.l i = true then ⟨s.most, s.l.eraseIdx i.toNat, s.lost⟩ else s
def dblPs (s : Ps) (i : Int) : Ps := if inP s.l i = true then put1 s (atPs s.l i) else s
theorem GoodPs.new (most : Int) : GoodPs (newPs most) := by
  unfold newPs clampP
  constructor <;> dsimp only
  · split
    · omega
    · split <;> omega
  · split
    · omega
    · split <;> omega
  · simp
  · omega
theorem GoodPs.put1 {s : Ps} (g : GoodPs s) (m : Mg) : GoodPs (put1 s m) := by
  obtain ⟨h1, h2, h3, h4⟩ := g
  unfold Go.Proofs.Ytmndemjjfhdfdaa.put1
  split
  · exact ⟨h1, h2, by dsimp only; rw [List.length_append, List.length_singleton]; omega, h4⟩
  · exact ⟨h1, h2, by dsimp only; rw [List.length_eraseIdx, List.length_append, List.length_singleton, if_pos (by omega)]; omega, by dsimp only; omega⟩
theorem GoodPs.put {s : Ps} (g : GoodPs s) (l : List Mg) : GoodPs (putPs s l) := by
  induction l generalizing s with
  | nil => exact g
  | cons m r ih => exact ih (g.put1 m)
theorem GoodPs.tak {s : Ps} (g : GoodPs s) (i : Int) : GoodPs (takPs s i) := by
  obtain ⟨h1, h2, h3, h4⟩ := id g
  unfold takPs
  split
  · exact ⟨h1, h2, by dsimp only; rw [List.length_eraseIdx]; split <;> omega, h4⟩
  · exact g
theorem GoodPs.dbl {s : Ps} (g : GoodPs s) (i : Int) : GoodPs (dblPs s i) := by
  unfold dblPs
  split
  · exact g.put1 _
  · exact g
theorem putPs_app (s : Ps) (l m : List Mg) : putPs s (l ++ m) = putPs (putPs s l) m := by
  induction l generalizing s with
  | nil => rfl
  | cons x l ih => exact ih _
theorem inP_iff {l : List Mg} {i : Int} : inP l i = true ↔ 0 ≤ i ∧ i < (l.length : Int) := by simp [inP]
theorem inP_nat {l : List Mg} {i : Nat} (h : i < l.length) : inP l i = true := inP_iff.2 ⟨by omega, by omega⟩
theorem inP_no {l : List Mg} {i : Int} (h : ¬ (0 ≤ i ∧ i < (l.length : Int))) : inP l i = false := by
  unfold inP; simp only [decide_eq_false_iff_not]; exact h
theorem atPs_nat {l : List Mg} {i : Nat} {m : Mg} (h : l[i]? = some m) : atPs l i = m := by
  have hlt := (List.getElem?_eq_some_iff.1 h).1
  unfold atPs
  rw [if_pos (inP_nat hlt)]
  simp [List.getD, h]
theorem atPs_no {l : List Mg} {i : Int} (h : inP l i = false) : atPs l i = zeroM := by unfold atPs; rw [h]; rfl
end Go.Proofs.Ytmndemjjfhdfdaa
