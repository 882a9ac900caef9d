/-
  A model, plainly: what was seen, the state that it comes to, what is held, whether all is clean.
-/
import Derived.Test.YtdoejppnifoebaaFlwG
import Derived.Test.YtdoejppnifoebaaOrdC2
namespace Go.Proofs.Ytdoejppnifoebaa
open Go.RowKit

/-- What a row says of the state behind it. -/
structure Says (l : List (Int × Int)) (s : Fs) : Prop where
  d : ∀ i : Int, (2, i) ∈ l ↔ 0 ≤ i ∧ i < s.d
  u : ∀ i : Int, (5, i) ∈ l ↔ (s.u : Int) ≤ i ∧ i < s.d
  y : (13, 0) ∈ l ↔ s.yes = true
  n : (14, 0) ∈ l ↔ s.no = true
  h : (16, 0) ∈ l ↔ s.ship = true
  len : l.length = s.d + (s.d - s.u) + s.yes.toNat + s.no.toNat + s.ship.toNat
theorem says_nil : Says [] fs0 := ⟨fun i => by simp [fs0], fun i => by simp [fs0], by simp [fs0], by simp [fs0], by simp [fs0], rfl⟩
theorem says_step {n : Nat} {l : List (Int × Int)} {s s' : Fs} {a : Int × Int} (g : Says l s) (hk : Fok n s) (h : seeF n s a = some s') : Says (l ++ [a]) s' := by
  obtain ⟨g1, g2, g3, g4, g5, g6⟩ := g
  obtain ⟨k1, k2, k3, k4, k5⟩ := hk
  rcases see_cases h with ⟨rfl, _, c2, c3, rfl⟩ | ⟨rfl, c1, c2, rfl⟩ | ⟨rfl, c1, c2, c3, c4, rfl⟩ | ⟨rfl, c1, c2, rfl⟩ | ⟨rfl, c1, c2, rfl⟩
  · refine ⟨fun i => ?_, fun i => ?_, ?_, ?_, ?_, ?_⟩
    · rw [List.mem_append, g1, List.mem_singleton, Prod.mk.injEq]; simp only [true_and]; omega
    · rw [List.mem_append, g2, List.mem_singleton, Prod.mk.injEq]; simp only; omega
    · rw [List.mem_append, g3, List.mem_singleton, Prod.mk.injEq]; simp
    · rw [List.mem_append, g4, List.mem_singleton, Prod.mk.injEq]; simp
    · rw [List.mem_append, g5, List.mem_singleton, Prod.mk.injEq]; simp
    · rw [List.length_append, g6]; simp only [List.length_singleton]; omega
  · refine ⟨fun i => ?_, fun i => ?_, ?_, ?_, ?_, ?_⟩
    · rw [List.mem_append, g1, List.mem_singleton, Prod.mk.injEq]; simp only; omega
    · rw [List.mem_append, g2, List.mem_singleton, Prod.mk.injEq]; simp only [true_and]; omega
    · rw [List.mem_append, g3, List.mem_singleton, Prod.mk.injEq]; simp
    · rw [List.mem_append, g4, List.mem_singleton, Prod.mk.injEq]; simp
    · rw [List.mem_append, g5, List.mem_singleton, Prod.mk.injEq]; simp
    · rw [List.length_append, g6]; simp only [List.length_singleton]; omega
  · refine ⟨fun i => ?_, fun i => ?_, ?_, ?_, ?_, ?_⟩
    · rw [List.mem_append, g1, List.mem_singleton, Prod.mk.injEq]; simp
    · rw [List.mem_append, g2, List.mem_singleton, Prod.mk.injEq]; simp
    · rw [List.mem_append, g3, List.mem_singleton]; simp
    · rw [List.mem_append, g4, List.mem_singleton, Prod.mk.injEq]; simp
    · rw [List.mem_append, g5, List.mem_singleton, Prod.mk.injEq]; simp
    · rw [List.length_append, g6, c1]; simp; omega
  · refine ⟨fun i => ?_, fun i => ?_, ?_, ?_, ?_, ?_⟩
    · rw [List.mem_append, g1, List.mem_singleton, Prod.mk.injEq]; simp
    · rw [List.mem_append, g2, List.mem_singleton, Prod.mk.injEq]; simp
    · rw [List.mem_append, g3, List.mem_singleton, Prod.mk.injEq]; simp
    · rw [List.mem_append, g4, List.mem_singleton]; simp
    · rw [List.mem_append, g5, List.mem_singleton, Prod.mk.injEq]; simp
    · rw [List.length_append, g6, c2]; simp; omega
  · refine ⟨fun i => ?_, fun i => ?_, ?_, ?_, ?_, ?_⟩
    · rw [List.mem_append, g1, List.mem_singleton, Prod.mk.injEq]; simp
    · rw [List.mem_append, g2, List.mem_singleton, Prod.mk.injEq]; simp
    · rw [List.mem_append, g3, List.mem_singleton, Prod.mk.injEq]; simp
    · rw [List.mem_append, g4, List.mem_singleton, Prod.mk.injEq]; simp
    · rw [List.mem_append, g5, List.mem_singleton]; simp
    · rw [List.length_append, g6, c2]; simp

/-- A model: its order, what was seen, the state behind it. -/
structure Ml where
  o : Od
  l : List (Int × Int)
  s : Fs
structure GoodMl (v : Ml) : Prop where
  m : mayO v.o = true
  go : goF v.o.steps.length fs0 v.l = some v.s
  ok : Fok v.o.steps.length v.s
  says : Says v.l v.s
def newM (o : Od) : Ml := ⟨o, [], fs0⟩
def seeM (v : Ml) (a : Int × Int) : Ml := match seeF v.o.steps.length v.s a with
  | none => v
  | some s' => ⟨v.o, v.l ++ [a], s'⟩
theorem newM_good {o : Od} (h : mayO o = true) : GoodMl (newM o) := ⟨h, rfl, fok0 _, says_nil⟩
theorem seeM_some {v : Ml} {a : Int × Int} {s' : Fs} (h : seeF v.o.steps.length v.s a = some s') : seeM v a = ⟨v.o, v.l ++ [a], s'⟩ := by unfold seeM; rw [h]
theorem seeM_none {v : Ml} {a : Int × Int} (h : seeF v.o.steps.length v.s a = none) : seeM v a = v := by unfold seeM; rw [h]
theorem seeM_o (v : Ml) (a : Int × Int) : (seeM v a).o = v.o := by
  unfold seeM
  split <;> rfl
theorem seeM_good {v : Ml} (g : GoodMl v) (a : Int × Int) : GoodMl (seeM v a) := by
  cases h : seeF v.o.steps.length v.s a with
  | none => rw [seeM_none h]; exact g
  | some s' =>
    rw [seeM_some h]
    refine ⟨g.m, ?_, see_ok g.ok h, says_step g.says g.ok h⟩
    show goF v.o.steps.length fs0 (v.l ++ [a]) = some s'
    rw [(goF_append _ _ _ _ _ g.go).1]; simp [goF, h]
theorem GoodMl.len {v : Ml} (g : GoodMl v) : v.l.length ≤ 9 := by
  have h := g.says.len
  have h3 := may_three g.m
  obtain ⟨k1, k2, -⟩ := g.ok
  have b : ∀ x : Bool, x.toNat ≤ 1 := fun x => by cases x <;> decide
  have := b v.s.yes; have := b v.s.no; have := b v.s.ship
  omega
theorem GoodMl.legal {v : Ml} (g : GoodMl v) (a : Int × Int) : legalO v.o (v.l ++ [a]) = v.l.length + (if (seeF v.o.steps.length v.s a).isSome = true then 1 else 0) := by
  cases h : seeF v.o.steps.length v.s a with
  | none => rw [legal_more g.m g.go h]; simp
  | some s' =>
    have e : goF v.o.steps.length fs0 (v.l ++ [a]) = some s' := by rw [(goF_append _ _ _ _ _ g.go).1]; simp [goF, h]
    rw [legal_go g.m e]; simp
theorem GoodMl.all {v : Ml} (g : GoodMl v) : legalO v.o v.l = v.l.length := legal_go g.m g.go
theorem dec_of {p : Prop} [Decidable p] {b : Bool} (h : p ↔ b = true) : decide p = b := by cases b <;> simp [h]
/-- What was seen of a step. -/
theorem GoodMl.saw2 {v : Ml} (g : GoodMl v) {j : Nat} : decide ((2, (j : Int)) ∈ v.l) = decide (j < v.s.d) := by
  rw [decide_eq_decide, g.says.d]; omega
theorem GoodMl.saw5 {v : Ml} (g : GoodMl v) {j : Nat} : decide ((5, (j : Int)) ∈ v.l) = decide (v.s.u ≤ j ∧ j < v.s.d) := by
  rw [decide_eq_decide, g.says.u]; omega
theorem GoodMl.saw13 {v : Ml} (g : GoodMl v) : decide ((13, 0) ∈ v.l) = v.s.yes := dec_of g.says.y
theorem GoodMl.saw14 {v : Ml} (g : GoodMl v) : decide ((14, 0) ∈ v.l) = v.s.no := dec_of g.says.n
theorem GoodMl.saw16 {v : Ml} (g : GoodMl v) : decide ((16, 0) ∈ v.l) = v.s.ship := dec_of g.says.h
/-- How much of a service the order holds. -/
def heldF (v : Ml) (k : Int) : Int := if atF v.o.steps k < 0 then 0 else if atF v.o.steps k < v.s.u then (stAt v.o.steps (atF v.o.steps k).toNat).2 else 0
def cleanF (v : Ml) : Bool := v.s.no && decide (v.s.u = 0)
theorem at_svc {o : Od} (h : mayO o = true) {j : Nat} (hj : j < o.steps.length) : atF o.steps (stAt o.steps j).1 = j := by
  have h1 : okTo o.steps o.steps.length = true := by
    unfold mayO stepsB at h
    simp only [Bool.and_eq_true] at h
    exact h.2.2
  have h2 := okTo_at h1 hj
  rw [okAt_eq hj] at h2
  simp only [Bool.and_eq_true, beq_iff_eq] at h2
  exact h2.2
theorem n_pos {o : Od} (h : mayO o = true) {j : Nat} (hj : j < o.steps.length) : 1 ≤ (stAt o.steps j).2 ∧ (4 ≤ (stAt o.steps j).1 ∧ (stAt o.steps j).1 ≤ 6) := by
  obtain ⟨-, -, -, -, -, -, h1⟩ := mayO_parts h
  have := h1 _ (stAt_mem hj)
  exact ⟨this.2.1, this.1⟩
theorem held_step {v : Ml} (g : GoodMl v) {j : Nat} (hj : j < v.o.steps.length) : heldF v (stAt v.o.steps j).1 = if j < v.s.u then (stAt v.o.steps j).2 else 0 := by
  unfold heldF
  rw [at_svc g.m hj, if_neg (by omega), Int.toNat_natCast]
  by_cases h : j < v.s.u
  · rw [if_pos h, if_pos (by omega)]
  · rw [if_neg h, if_neg (by omega)]
theorem held_pos {v : Ml} (g : GoodMl v) {j : Nat} (hj : j < v.o.steps.length) : decide (heldF v (stAt v.o.steps j).1 > 0) = decide (j < v.s.u) := by
  rw [held_step g hj, decide_eq_decide]
  have := (n_pos g.m hj).1
  split <;> omega
theorem held_stock {v : Ml} (g : GoodMl v) : heldF v 1 = 0 := by
  unfold heldF
  rcases atF_cases v.o.steps 1 with ⟨h, -⟩ | ⟨j, hj, h1, h2, -⟩
  · rw [h]; rfl
  · have := (n_pos g.m hj).2
    omega
end Go.Proofs.Ytdoejppnifoebaa
