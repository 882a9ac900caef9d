/-
  Plain facts on sagas: what is known of an order, may it be, how it stands, what is to be sent.
-/
import Derived.Test.YtinbmnefdhkdfaaFlwM
import Derived.Test.YtinbmnefdhkdfaaSgaI
namespace Go.Proofs.Ytinbmnefdhkdfaa
open Go

/-- A message. -/
structure Mg where
  k : Int
  fr : Int
  to : Int
  id : Int
  st : Int
  a : Int
  b : Int
/-- What is known of an order. -/
structure Fa where
  dn : List Bool
  un : List Bool
  asked : Bool
  yes : Bool
  turned : Bool
  k0 : Bool
  k1 : Bool
  ship : Bool
  d0 : Bool
  d1 : Bool
  acc : Bool

def hasB : List Bool → Bool → Bool
  | [], _ => false
  | x :: l, b => (b == x) || hasB l b
def idxB : List Bool → Bool → Int
  | [], _ => -1
  | x :: l, b => if (b == x) = true then 0 else if idxB l b < 0 then -1 else idxB l b + 1
def allB (l : List Bool) : Bool := !hasB l false
def staysB (l : List Bool) (so : Bool) : Bool := decide (idxB l so < 0) || !hasB (l.drop (idxB l so).toNat) (!so)

def decF (f : Fa) : Bool := if f.turned then !f.yes && !f.ship else if f.yes then f.asked else !f.ship && (!f.k0 && !f.k1) && (!f.d0 && !f.d1)
def donF (f : Fa) : Bool := if f.turned then true else if f.yes then allB f.dn else staysB f.dn false
def undF (f : Fa) : Bool := if f.turned then staysB f.un true else !hasB f.un true
def mayF (o : Od) (f : Fa) : Bool := mayO o && decide (f.dn.length = o.steps.length) && decide (f.un.length = o.steps.length) && decF f && donF f && undF f
def stF (o : Od) (f : Fa) : Int :=
  if mayF o f = false then 0
  else if ((f.d0 || f.d1) && !f.acc) = true then 7
  else if (f.turned && (f.k0 && f.k1) && allB f.un) = true then 6
  else if f.turned = true then 4
  else if (f.yes && (f.k0 && f.k1) && f.ship) = true then 5
  else if f.yes = true then 3
  else if f.asked = true then 2
  else 1
def overF (o : Od) (f : Fa) : Bool := stF o { f with acc := true } == 5 || stF o { f with acc := true } == 6

/-! Messages. -/
def msgM (o : Od) (k t : Int) : Mg := ⟨k, 0, t, o.id, 0, 0, 0⟩
def doM (o : Od) (i : Nat) : Mg := ⟨1, 0, (stAt o.steps i).1, o.id, i, (stAt o.steps i).2, 0⟩
def undoM (o : Od) (i : Nat) : Mg := ⟨4, 0, (stAt o.steps i).1, o.id, i, 0, 0⟩
def shipM (o : Od) : Mg := ⟨15, 0, 3, o.id, 0, o.item, o.qty⟩
def prepL (o : Od) : List Mg := [⟨6, 0, 1, o.id, 0, o.item, o.qty⟩, ⟨6, 0, 2, o.id, 0, o.client, o.price⟩]
def decL (o : Od) (f : Fa) (k : Int) : List Mg := (if f.k0 then [] else [msgM o k 1]) ++ (if f.k1 then [] else [msgM o k 2])

/-- What is to be sent of one thing of the plan, and whether all behind it waits. -/
def fwdS (o : Od) (f : Fa) (x : Int × Int) : List Mg × Bool :=
  if x.1 = 1 then (if f.dn.getD x.2.toNat false then ([], false) else ([doM o x.2.toNat], true))
  else if x.1 = 6 then (if f.yes then ([], false) else (prepL o, true))
  else if x.1 = 9 then (decL o f 9, false)
  else if x.1 = 15 then (if f.ship then ([], false) else ([shipM o], false))
  else ([], false)
def bckS (o : Od) (f : Fa) (x : Int × Int) : List Mg × Bool :=
  if x.1 = 10 then (decL o f 10, false)
  else if x.1 = 4 then (if f.un.getD x.2.toNat false then ([], false) else ([undoM o x.2.toNat], true))
  else ([], false)
def runS (g : Int × Int → List Mg × Bool) : List (Int × Int) → List Mg → List Mg
  | [], acc => acc
  | x :: l, acc => if (g x).2 then acc ++ (g x).1 else runS g l (acc ++ (g x).1)
def nextF (o : Od) (f : Fa) : List Mg := if mayF o f = false then [] else if f.turned then runS (bckS o f) (backL o) [] else runS (fwdS o f) (planL o) []

/-! Rows of bools. -/
theorem hasB_mem {l : List Bool} {b : Bool} : hasB l b = true ↔ b ∈ l := by
  induction l with
  | nil => simp [hasB]
  | cons x l ih => rw [hasB, Bool.or_eq_true, ih]; simp
theorem hasB_not {l : List Bool} {b : Bool} : hasB l b = false ↔ b ∉ l := by rw [← hasB_mem]; simp
theorem idxB_has (l : List Bool) (b : Bool) : decide (idxB l b ≥ 0) = hasB l b := by
  induction l with
  | nil => simp [idxB, hasB]
  | cons x l ih =>
    rw [idxB, hasB]
    by_cases h : (b == x) = true
    · rw [if_pos h, h]; simp
    · rw [if_neg h]
      rw [Bool.not_eq_true] at h
      rw [h, Bool.false_or, ← ih]
      by_cases h2 : idxB l b < 0
      · rw [if_pos h2]
        simp; omega
      · rw [if_neg h2]
        have h3 : idxB l b ≥ 0 := by omega
        simp [h3]; omega
theorem idxB_cases (l : List Bool) (b : Bool) : (idxB l b = -1 ∧ b ∉ l) ∨ ∃ n : Nat, n < l.length ∧ idxB l b = n ∧ l[n]? = some b ∧ b ∉ l.take n := by
  induction l with
  | nil => exact .inl ⟨rfl, by simp⟩
  | cons x l ih =>
    rw [idxB]
    by_cases h : (b == x) = true
    · rw [if_pos h]
      exact .inr ⟨0, by simp, rfl, by simp at h; simp [h], by simp⟩
    · rw [if_neg h]
      rcases ih with ⟨e, hn⟩ | ⟨n, h1, h2, h3, h4⟩
      · rw [if_pos (by omega)]
        exact .inl ⟨rfl, by simp at h; simp [hn, h]⟩
      · rw [if_neg (by omega)]
        exact .inr ⟨n + 1, by simp; omega, by omega, by simpa using h3, by simp at h; simp [h, h4]⟩
theorem idxB_none {l : List Bool} {b : Bool} (h : b ∉ l) : idxB l b = -1 := by
  rcases idxB_cases l b with ⟨e, _⟩ | ⟨n, _, _, h3, _⟩
  · exact e
  · exact absurd (List.mem_of_getElem? h3) h
theorem idxB_hit {l : List Bool} {b : Bool} {j : Nat} (hj : l[j]? = some b) (h : b ∉ l.take j) : idxB l b = j := by
  have hjl := (List.getElem?_eq_some_iff.1 hj).1
  rcases idxB_cases l b with ⟨_, hn⟩ | ⟨n, h1, h2, h3, h4⟩
  · exact absurd (List.mem_of_getElem? hj) hn
  · have e : n = j := by
      rcases Nat.lt_trichotomy n j with e | e | e
      · exfalso; apply h
        exact List.mem_of_getElem? (i := n) (by rw [List.getElem?_take, if_pos e]; exact h3)
      · exact e
      · exfalso; apply h4
        exact List.mem_of_getElem? (i := j) (by rw [List.getElem?_take, if_pos e]; exact hj)
    rw [h2, e]
theorem not_snoc {l : List Bool} {b x : Bool} {j : Nat} (hj : l[j]? = some x) (hx : x ≠ b) (h : b ∉ l.take j) : b ∉ l.take (j + 1) := by
  intro hm
  rw [List.take_add_one, List.mem_append] at hm
  rcases hm with hm | hm
  · exact h hm
  · rw [hj] at hm
    simp at hm
    exact hx hm.symm
theorem allB_mem {l : List Bool} : allB l = true ↔ ∀ x ∈ l, x = true := by
  unfold allB
  rw [Bool.not_eq_true', hasB_not]
  constructor
  · intro h x hx
    cases x
    · exact absurd hx h
    · rfl
  · intro h hm
    cases h _ hm
end Go.Proofs.Ytinbmnefdhkdfaa
