/-
  Plain facts on what may happen to an order: a state, a step, how many of a row may happen; each beginning may; nothing twice; plans, the way back.
-/
import Derived.Test.YtdoejppnifoebaaOrdM
namespace Go.Proofs.Ytdoejppnifoebaa
open Go

/-- How far an order has come: so many steps done, so many of them not undone; committed, aborted, shipped. -/
structure Fs where
  d : Nat
  u : Nat
  yes : Bool
  no : Bool
  ship : Bool
def fs0 : Fs := ⟨0, 0, false, false, false⟩
/-- What happens (its kind, its step) to an order of n steps, if it may. -/
def seeF (n : Nat) (s : Fs) (a : Int × Int) : Option Fs :=
  if a.1 = 2 then (if a.2 = (s.d : Int) ∧ s.d < n ∧ s.yes = false ∧ s.u = s.d then some ⟨s.d + 1, s.u + 1, s.yes, s.no, s.ship⟩ else none)
  else if a.1 = 5 then (if s.no = true ∧ 0 < s.u ∧ a.2 = (s.u : Int) - 1 then some ⟨s.d, s.u - 1, s.yes, s.no, s.ship⟩ else none)
  else if a.1 = 13 then (if a.2 = 0 ∧ s.yes = false ∧ s.no = false ∧ s.d = n ∧ s.u = s.d then some ⟨s.d, s.u, true, s.no, s.ship⟩ else none)
  else if a.1 = 14 then (if a.2 = 0 ∧ s.yes = false ∧ s.no = false then some ⟨s.d, s.u, s.yes, true, s.ship⟩ else none)
  else if a.1 = 16 then (if a.2 = 0 ∧ s.yes = true ∧ s.ship = false then some ⟨s.d, s.u, s.yes, s.no, true⟩ else none)
  else none
/-- The states that can be. -/
def Fok (n : Nat) (s : Fs) : Prop := s.u ≤ s.d ∧ s.d ≤ n ∧ (s.u < s.d → s.no = true) ∧ (s.yes = true → s.no = false ∧ s.d = n ∧ s.u = s.d) ∧ (s.ship = true → s.yes = true)
theorem fok0 (n : Nat) : Fok n fs0 := ⟨Nat.le_refl _, Nat.zero_le _, (fun h => by cases h), (fun h => by cases h), (fun h => by cases h)⟩

theorem see_cases {n : Nat} {s s' : Fs} {a : Int × Int} (h : seeF n s a = some s') :
    (a = (2, (s.d : Int)) ∧ s.d < n ∧ s.yes = false ∧ s.u = s.d ∧ s' = ⟨s.d + 1, s.u + 1, s.yes, s.no, s.ship⟩) ∨
    (a = (5, (s.u : Int) - 1) ∧ s.no = true ∧ 0 < s.u ∧ s' = ⟨s.d, s.u - 1, s.yes, s.no, s.ship⟩) ∨
    (a = (13, 0) ∧ s.yes = false ∧ s.no = false ∧ s.d = n ∧ s.u = s.d ∧ s' = ⟨s.d, s.u, true, s.no, s.ship⟩) ∨
    (a = (14, 0) ∧ s.yes = false ∧ s.no = false ∧ s' = ⟨s.d, s.u, s.yes, true, s.ship⟩) ∨
    (a = (16, 0) ∧ s.yes = true ∧ s.ship = false ∧ s' = ⟨s.d, s.u, s.yes, s.no, true⟩) := by
  obtain ⟨k, x⟩ := a
  unfold seeF at h
  simp only at h
  split at h
  · rename_i e; subst e
    split at h
    · rename_i c; obtain ⟨rfl, c2, c3, c4⟩ := c; cases h; exact .inl ⟨rfl, c2, c3, c4, rfl⟩
    · cases h
  split at h
  · rename_i e; subst e
    split at h
    · rename_i c; obtain ⟨c1, c2, rfl⟩ := c; cases h; exact .inr (.inl ⟨rfl, c1, c2, rfl⟩)
    · cases h
  split at h
  · rename_i e; subst e
    split at h
    · rename_i c; obtain ⟨rfl, c2, c3, c4, c5⟩ := c; cases h; exact .inr (.inr (.inl ⟨rfl, c2, c3, c4, c5, rfl⟩))
    · cases h
  split at h
  · rename_i e; subst e
    split at h
    · rename_i c; obtain ⟨rfl, c2, c3⟩ := c; cases h; exact .inr (.inr (.inr (.inl ⟨rfl, c2, c3, rfl⟩)))
    · cases h
  split at h
  · rename_i e; subst e
    split at h
    · rename_i c; obtain ⟨rfl, c2, c3⟩ := c; cases h; exact .inr (.inr (.inr (.inr ⟨rfl, c2, c3, rfl⟩)))
    · cases h
  · cases h
theorem see_ok {n : Nat} {s s' : Fs} {a : Int × Int} (hs : Fok n s) (h : seeF n s a = some s') : Fok n s' := by
  obtain ⟨h1, h2, h3, h4, h5⟩ := hs
  rcases see_cases h with ⟨_, c1, c2, c3, rfl⟩ | ⟨_, c1, c2, rfl⟩ | ⟨_, c1, c2, c3, c4, rfl⟩ | ⟨_, c1, c2, rfl⟩ | ⟨_, c1, c2, rfl⟩
  · refine ⟨by simp only; omega, by simp only; omega, fun h => h3 (by simp only at h; omega), fun h => ?_, h5⟩
    simp only at h; rw [c2] at h; cases h
  · refine ⟨by simp only; omega, h2, fun _ => c1, fun h => ?_, h5⟩
    simp only at h
    have := (h4 h).1
    rw [c1] at this; cases this
  · exact ⟨h1, h2, h3, fun _ => ⟨c2, c3, c4⟩, fun _ => rfl⟩
  · refine ⟨h1, h2, fun _ => rfl, fun h => ?_, h5⟩
    simp only at h; rw [c1] at h; cases h
  · exact ⟨h1, h2, h3, h4, fun _ => c1⟩

/-- How many may happen. -/
def runF (n : Nat) : Fs → List (Int × Int) → Nat
  | _, [] => 0
  | s, a :: l => match seeF n s a with
    | none => 0
    | some s' => runF n s' l + 1
/-- The state behind all of a row, if all may happen. -/
def goF (n : Nat) : Fs → List (Int × Int) → Option Fs
  | s, [] => some s
  | s, a :: l => match seeF n s a with
    | none => none
    | some s' => goF n s' l
def legalO (o : Od) (l : List (Int × Int)) : Nat := if mayO o = true then runF o.steps.length fs0 l else 0

theorem runF_le (n : Nat) : ∀ (l : List (Int × Int)) (s : Fs), runF n s l ≤ l.length
  | [], _ => Nat.le_refl _
  | a :: l, s => by
    rw [runF]
    cases seeF n s a with
    | none => exact Nat.zero_le _
    | some s' => have := runF_le n l s'; simp only [List.length_cons]; omega
theorem runF_take (n : Nat) : ∀ (c : Nat) (l : List (Int × Int)) (s : Fs), runF n s (l.take c) = min c (runF n s l)
  | 0, l, s => by simp [runF]
  | c + 1, [], s => by simp [runF]
  | c + 1, a :: l, s => by
    rw [List.take_succ_cons, runF, runF]
    cases seeF n s a with
    | none => simp
    | some s' => simp only [runF_take n c l s']; omega
theorem legalO_le (o : Od) (l : List (Int × Int)) : legalO o l ≤ l.length := by
  unfold legalO
  split
  · exact runF_le _ _ _
  · exact Nat.zero_le _
theorem legalO_take (o : Od) (c : Nat) (l : List (Int × Int)) : legalO o (l.take c) = min c (legalO o l) := by
  unfold legalO
  split
  · exact runF_take _ _ _ _
  · simp
theorem goF_take (n : Nat) : ∀ (l : List (Int × Int)) (s : Fs) (k : Nat), k ≤ runF n s l → ∃ s', goF n s (l.take k) = some s'
  | l, s, 0, _ => ⟨s, by simp [goF]⟩
  | [], s, k + 1, h => by simp [runF] at h
  | a :: l, s, k + 1, h => by
    rw [runF] at h
    rw [List.take_succ_cons, goF]
    cases hs : seeF n s a with
    | none => rw [hs] at h; simp at h
    | some s' =>
      rw [hs] at h
      simp only at h ⊢
      exact goF_take n l s' k (by omega)
theorem goF_append (n : Nat) : ∀ (l m : List (Int × Int)) (s s' : Fs), goF n s l = some s' → goF n s (l ++ m) = goF n s' m ∧ runF n s (l ++ m) = l.length + runF n s' m
  | [], m, s, s', h => by
    simp only [goF, Option.some.injEq] at h
    subst h
    simp
  | a :: l, m, s, s', h => by
    rw [goF] at h
    rw [List.cons_append, goF, runF]
    cases hs : seeF n s a with
    | none => rw [hs] at h; cases h
    | some t =>
      rw [hs] at h
      simp only at h ⊢
      obtain ⟨h1, h2⟩ := goF_append n l m t s' h
      rw [h1, h2]
      refine ⟨rfl, ?_⟩
      simp only [List.length_cons]
      omega
theorem goF_all {n : Nat} {l : List (Int × Int)} {s s' : Fs} (h : goF n s l = some s') : runF n s l = l.length := by
  have := (goF_append n l [] s s' h).2
  simpa [runF] using this
theorem goF_ok (n : Nat) : ∀ (l : List (Int × Int)) (s s' : Fs), Fok n s → goF n s l = some s' → Fok n s'
  | [], s, s', hs, h => by simp only [goF, Option.some.injEq] at h; subst h; exact hs
  | a :: l, s, s', hs, h => by
    rw [goF] at h
    cases hx : seeF n s a with
    | none => rw [hx] at h; cases h
    | some t => rw [hx] at h; exact goF_ok n l t s' (see_ok hs hx) h
/-- The next one of a row, behind those that may happen. -/
theorem goF_next {n : Nat} {l : List (Int × Int)} {s t : Fs} {k : Nat} (hk : k < l.length) (h : goF n s (l.take k) = some t) : goF n s (l.take (k + 1)) = seeF n t l[k] := by
  rw [List.take_succ_eq_append_getElem hk, (goF_append n _ _ s t h).1, goF]
  cases seeF n t l[k] <;> rfl
theorem runF_stop {n : Nat} {l : List (Int × Int)} {s t : Fs} {k : Nat} (hk : k < l.length) (h : goF n s (l.take k) = some t) (hn : seeF n t l[k] = none) : runF n s l = k := by
  have e : l = l.take k ++ (l[k] :: l.drop (k + 1)) := by rw [← List.drop_eq_getElem_cons hk, List.take_append_drop]
  have := (goF_append n (l.take k) (l[k] :: l.drop (k + 1)) s t h).2
  rw [← e, runF, hn] at this
  simp only [List.length_take] at this
  omega

/-! Nothing happens twice. -/
def Past (s : Fs) (a : Int × Int) : Prop := (a.1 = 2 ∧ a.2 < (s.d : Int)) ∨ (a.1 = 5 ∧ (s.u : Int) ≤ a.2 ∧ s.u < s.d) ∨ (a = (13, 0) ∧ s.yes = true) ∨ (a = (14, 0) ∧ s.no = true) ∨ (a = (16, 0) ∧ s.ship = true)
theorem past_see {n : Nat} {s s' : Fs} {a : Int × Int} (hs : Fok n s) (h : seeF n s a = some s') : Past s' a := by
  rcases see_cases h with ⟨rfl, _, _, _, rfl⟩ | ⟨rfl, _, c2, rfl⟩ | ⟨rfl, _, _, _, _, rfl⟩ | ⟨rfl, _, _, rfl⟩ | ⟨rfl, _, _, rfl⟩
  · exact .inl ⟨rfl, by simp only; omega⟩
  · have := hs.1
    exact .inr (.inl ⟨rfl, by simp only; omega, by simp only; omega⟩)
  · exact .inr (.inr (.inl ⟨rfl, rfl⟩))
  · exact .inr (.inr (.inr (.inl ⟨rfl, rfl⟩)))
  · exact .inr (.inr (.inr (.inr ⟨rfl, rfl⟩)))
theorem past_on {n : Nat} {s s' : Fs} {a b : Int × Int} (hb : Past s b) (h : seeF n s a = some s') : Past s' b := by
  rcases see_cases h with ⟨_, _, _, c3, rfl⟩ | ⟨_, _, c2, rfl⟩ | ⟨_, _, _, _, _, rfl⟩ | ⟨_, _, _, rfl⟩ | ⟨_, _, _, rfl⟩ <;>
    rcases hb with ⟨b1, b2⟩ | ⟨b1, b2, b3⟩ | ⟨b1, b2⟩ | ⟨b1, b2⟩ | ⟨b1, b2⟩
  all_goals first
    | exact .inr (.inr (.inl ⟨b1, b2⟩))
    | exact .inr (.inr (.inl ⟨b1, rfl⟩))
    | exact .inr (.inr (.inr (.inl ⟨b1, b2⟩)))
    | exact .inr (.inr (.inr (.inl ⟨b1, rfl⟩)))
    | exact .inr (.inr (.inr (.inr ⟨b1, b2⟩)))
    | exact .inr (.inr (.inr (.inr ⟨b1, rfl⟩)))
    | exact .inl ⟨b1, by simp only; omega⟩
    | exact .inr (.inl ⟨b1, by simp only; omega, by simp only; omega⟩)
    | (exfalso; omega)
theorem past_none {n : Nat} {s : Fs} {a : Int × Int} (h : Past s a) : seeF n s a = none := by
  cases hs : seeF n s a with
  | none => rfl
  | some s' =>
    exfalso
    rcases see_cases hs with ⟨rfl, _, _, _, _⟩ | ⟨rfl, _, c2, _⟩ | ⟨rfl, c1, _⟩ | ⟨rfl, _, c1, _⟩ | ⟨rfl, _, c1, _⟩ <;>
      rcases h with ⟨b1, b2⟩ | ⟨b1, b2, b3⟩ | ⟨b1, b2⟩ | ⟨b1, b2⟩ | ⟨b1, b2⟩ <;> simp at b1 b2 <;> first | omega | (rw [c1] at b2; cases b2)
theorem goF_past (n : Nat) : ∀ (l : List (Int × Int)) (s s' : Fs), Fok n s → goF n s l = some s' → (∀ b, Past s b → Past s' b) ∧ ∀ b ∈ l, Past s' b
  | [], s, s', _, h => by simp only [goF, Option.some.injEq] at h; subst h; exact ⟨fun _ h => h, (fun b hb => by cases hb)⟩
  | a :: l, s, s', hs, h => by
    rw [goF] at h
    cases hx : seeF n s a with
    | none => rw [hx] at h; cases h
    | some t =>
      rw [hx] at h
      obtain ⟨h1, h2⟩ := goF_past n l t s' (see_ok hs hx) h
      refine ⟨fun b hb => h1 b (past_on hb hx), fun b hb => ?_⟩
      rcases List.mem_cons.1 hb with rfl | hb
      · exact h1 _ (past_see hs hx)
      · exact h2 b hb
theorem legal_once {o : Od} {l : List (Int × Int)} {i j : Nat} (hij : i < j) (hj : j < legalO o l) (hl : j < l.length) : l[i] ≠ l[j] := by
  intro e
  unfold legalO at hj
  split at hj
  · obtain ⟨t, ht⟩ := goF_take o.steps.length l fs0 j (by omega)
    have hp := (goF_past _ _ _ _ (fok0 _) ht).2 l[i] (List.mem_take_iff_getElem.2 ⟨i, by omega, rfl⟩)
    rw [e] at hp
    have := runF_stop hl ht (past_none hp)
    omega
  · omega

/-! Rows. -/
def doneL : Nat → Nat → List (Int × Int)
  | _, 0 => []
  | j, k + 1 => (2, (j : Int)) :: doneL (j + 1) k
/-- The last k of j steps undone, the last one first. -/
def undoneL : Nat → List (Int × Int)
  | 0 => []
  | k + 1 => (5, (k : Int)) :: undoneL k
theorem doneL_len : ∀ (k j : Nat), (doneL j k).length = k
  | 0, _ => rfl
  | k + 1, j => by rw [doneL]; simp [doneL_len k]
theorem undoneL_len : ∀ k, (undoneL k).length = k
  | 0 => rfl
  | k + 1 => by rw [undoneL]; simp [undoneL_len k]
theorem doneL_snoc : ∀ (k j : Nat), doneL j (k + 1) = doneL j k ++ [(2, ((j + k : Nat) : Int))]
  | 0, j => by simp [doneL]
  | k + 1, j => by
    rw [doneL, doneL_snoc k (j + 1), doneL]
    simp only [List.cons_append]
    congr 3
    simp; omega
theorem go_done (n : Nat) (no ship : Bool) : ∀ (k j : Nat), j + k ≤ n → goF n ⟨j, j, false, no, ship⟩ (doneL j k) = some ⟨j + k, j + k, false, no, ship⟩
  | 0, j, _ => rfl
  | k + 1, j, h => by
    rw [doneL, goF]
    have e : seeF n ⟨j, j, false, no, ship⟩ (2, (j : Int)) = some ⟨j + 1, j + 1, false, no, ship⟩ := by
      unfold seeF; simp; omega
    rw [e]
    simp only
    rw [go_done n no ship k (j + 1) (by omega)]
    simp; omega
theorem go_undone (n d : Nat) (ship : Bool) : ∀ k, goF n ⟨d, k, false, true, ship⟩ (undoneL k) = some ⟨d, 0, false, true, ship⟩
  | 0 => rfl
  | k + 1 => by
    rw [undoneL, goF]
    have e : seeF n ⟨d, k + 1, false, true, ship⟩ (5, (k : Int)) = some ⟨d, k, false, true, ship⟩ := by
      unfold seeF; simp
    rw [e]
    exact go_undone n d ship k
/-- The plan as it happens, and some steps of it with the way back. -/
theorem go_ahead (n : Nat) : goF n fs0 (doneL 0 n ++ [(13, 0), (16, 0)]) = some ⟨n, n, true, false, true⟩ := by
  rw [(goF_append n _ _ fs0 _ (go_done n false false n 0 (by omega))).1]
  simp [goF, seeF]
theorem go_way (n k : Nat) (h : k ≤ n) : goF n fs0 (doneL 0 k ++ ((14, 0) :: undoneL k)) = some ⟨k, 0, false, true, false⟩ := by
  rw [(goF_append n _ _ fs0 _ (go_done n false false k 0 (by omega))).1]
  have e : seeF n ⟨0 + k, 0 + k, false, false, false⟩ (14, 0) = some ⟨0 + k, 0 + k, false, true, false⟩ := by
    unfold seeF; simp
  rw [goF, e]
  simp only [Nat.zero_add]
  exact go_undone n k false k
/-- Behind all that may happen nothing more may. -/
theorem see_ship {n : Nat} (a : Int × Int) : seeF n ⟨n, n, true, false, true⟩ a = none := by
  cases h : seeF n ⟨n, n, true, false, true⟩ a with
  | none => rfl
  | some s' => rcases see_cases h with ⟨_, _, c, _⟩ | ⟨_, c, _⟩ | ⟨_, c, _⟩ | ⟨_, c, _⟩ | ⟨_, _, c, _⟩ <;> cases c
theorem see_back {n : Nat} (a : Int × Int) : seeF n ⟨n, 0, false, true, false⟩ a = none := by
  cases h : seeF n ⟨n, 0, false, true, false⟩ a with
  | none => rfl
  | some s' =>
    rcases see_cases h with ⟨_, c1, _, c2, _⟩ | ⟨_, _, c, _⟩ | ⟨_, _, c, _⟩ | ⟨_, _, c, _⟩ | ⟨_, c, _⟩
    · simp at c1
    · simp at c
    · cases c
    · cases c
    · cases c
theorem legal_go {o : Od} {l : List (Int × Int)} {s : Fs} (hm : mayO o = true) (h : goF o.steps.length fs0 l = some s) : legalO o l = l.length := by
  unfold legalO; rw [if_pos hm]; exact goF_all h
theorem legal_more {o : Od} {l : List (Int × Int)} {s : Fs} {a : Int × Int} (hm : mayO o = true) (h : goF o.steps.length fs0 l = some s) (ha : seeF o.steps.length s a = none) : legalO o (l ++ [a]) = l.length := by
  unfold legalO; rw [if_pos hm, (goF_append _ l [a] fs0 s h).2, runF, ha]; rfl
theorem legal_not {o : Od} (l : List (Int × Int)) (hm : mayO o = false) : legalO o l = 0 := by
  unfold legalO; rw [hm]; rfl

/-! Plans. -/
def doL : Nat → Nat → List (Int × Int)
  | _, 0 => []
  | j, k + 1 => (1, (j : Int)) :: doL (j + 1) k
def undoL : Nat → List (Int × Int)
  | 0 => []
  | k + 1 => (4, (k : Int)) :: undoL k
def planL (o : Od) : List (Int × Int) := if mayO o = true then doL 0 o.steps.length ++ [(6, 0), (9, 0), (15, 0)] else []
def backL (o : Od) : List (Int × Int) := if mayO o = true then (10, 0) :: undoL o.steps.length else []
theorem doL_len : ∀ (k j : Nat), (doL j k).length = k
  | 0, _ => rfl
  | k + 1, j => by rw [doL]; simp [doL_len k]
theorem undoL_len : ∀ k, (undoL k).length = k
  | 0 => rfl
  | k + 1 => by rw [undoL]; simp [undoL_len k]
theorem doL_snoc : ∀ (k j : Nat), doL j (k + 1) = doL j k ++ [(1, ((j + k : Nat) : Int))]
  | 0, j => by simp [doL]
  | k + 1, j => by
    rw [doL, doL_snoc k (j + 1), doL]
    simp only [List.cons_append]
    congr 3
    simp; omega
end Go.Proofs.Ytdoejppnifoebaa
