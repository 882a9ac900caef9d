/-
  Plain facts on an order's way: what is left of it, and how an answer changes what is known.
-/
import Derived.Test.YtinbmnefdhkdfaaSgbM
namespace Go.Proofs.Ytinbmnefdhkdfaa
open Go

/-- How many are not so. -/
def cntN : List Bool → Nat
  | [] => 0
  | x :: l => (if x then 0 else 1) + cntN l
def one (b : Bool) : Nat := if b then 0 else 1
/-- How many answers that say yes are left. -/
def muF (f : Fa) : Nat := if f.turned then cntN f.un + one f.k0 + one f.k1 else if f.yes then one f.ship + one f.k0 + one f.k1 else cntN f.dn + 4
/-- It may be, and nothing is damaged. -/
def InvW (o : Od) (f : Fa) : Prop := mayF o f = true ∧ f.d0 = false ∧ f.d1 = false
/-- One message of a decision is answered. -/
def ackM (f : Fa) (m : Mg) : Fa := if m.k = 9 ∨ m.k = 10 then (if m.to = 1 then { f with k0 := true } else { f with k1 := true }) else f
def ackJ (f : Fa) (L : List Mg) (j : Nat) : Fa := (L.take j).foldl ackM f
theorem ack_dn (f : Fa) (m : Mg) : (ackM f m).dn = f.dn ∧ (ackM f m).un = f.un := by unfold ackM; split; split; all_goals exact ⟨rfl, rfl⟩
theorem ackJ_next {f : Fa} {L : List Mg} {j : Nat} {m : Mg} (h : L[j]? = some m) : ackJ f L (j + 1) = ackM (ackJ f L j) m := by
  unfold ackJ
  rw [List.take_add_one, h, List.foldl_append]
  rfl
theorem cntN_le : ∀ l : List Bool, cntN l ≤ l.length
  | [] => Nat.le_refl _
  | x :: l => by have := cntN_le l; unfold cntN; rw [List.length_cons]; cases x <;> simp <;> omega
theorem cntN_rep : ∀ n : Nat, cntN (List.replicate n false) = n
  | 0 => rfl
  | n + 1 => by rw [List.replicate_succ, cntN, cntN_rep n]; simp; omega
theorem mayN {o : Od} {f : Fa} : mayF o f = true ↔ mayO o = true ∧ f.dn.length = o.steps.length ∧ f.un.length = o.steps.length ∧ decF f = true ∧ donF f = true ∧ undF f = true := by
  unfold mayF
  simp only [Bool.and_eq_true, decide_eq_true_eq]
  constructor
  · rintro ⟨⟨⟨⟨⟨h, h1⟩, h2⟩, h3⟩, h4⟩, h5⟩; exact ⟨h, h1, h2, h3, h4, h5⟩
  · rintro ⟨h, h1, h2, h3, h4, h5⟩; exact ⟨⟨⟨⟨⟨h, h1⟩, h2⟩, h3⟩, h4⟩, h5⟩
theorem firstF_some {l : List Bool} : ∀ (m j i : Nat), firstF l j m = some i → j ≤ i ∧ i < j + m ∧ l.getD i false = false
  | 0, j, i, h => by simp [firstF] at h
  | m + 1, j, i, h => by
    rw [firstF] at h
    cases hx : l.getD j false
    · rw [hx] at h; simp at h; subst h; exact ⟨Nat.le_refl _, by omega, hx⟩
    · rw [hx] at h; simp at h
      have := firstF_some m (j + 1) i h
      exact ⟨by omega, by omega, this.2.2⟩
theorem lastF_some {l : List Bool} : ∀ (m i : Nat), lastF l m = some i → i < m ∧ l.getD i false = false
  | 0, i, h => by simp [lastF] at h
  | m + 1, i, h => by
    rw [lastF] at h
    cases hx : l.getD m false
    · rw [hx] at h; simp at h; subst h; exact ⟨by omega, hx⟩
    · rw [hx] at h; simp at h
      have := lastF_some m i h
      exact ⟨by omega, this.2⟩
/-! Rows of at most three. -/
theorem last_none (l : List Bool) (h : l.length ≤ 3) : (lastF l l.length = none ↔ allB l = true) := by
  match l, h with
  | [], _ => decide
  | [x], _ => cases x <;> decide
  | [x, y], _ => cases x <;> cases y <;> decide
  | [x, y, z], _ => cases x <;> cases y <;> cases z <;> decide
theorem first_none (l : List Bool) (h : l.length ≤ 3) : (firstF l 0 l.length = none ↔ allB l = true) := by
  match l, h with
  | [], _ => decide
  | [x], _ => cases x <;> decide
  | [x, y], _ => cases x <;> cases y <;> decide
  | [x, y, z], _ => cases x <;> cases y <;> cases z <;> decide
theorem undo_set (l : List Bool) (h : l.length ≤ 3) (i : Nat) (hi : lastF l l.length = some i) (b : Bool) (hs : staysB l true = true) : staysB (l.set i b) true = true ∧ cntN (l.set i b) + (if b then 1 else 0) = cntN l := by
  match l, h with
  | [], _ => simp [lastF] at hi
  | [x], _ => revert hi hs; cases x <;> cases b <;> simp [lastF] <;> rintro rfl <;> decide
  | [x, y], _ => revert hi hs; cases x <;> cases y <;> cases b <;> simp [lastF] <;> rintro rfl <;> decide
  | [x, y, z], _ => revert hi hs; cases x <;> cases y <;> cases z <;> cases b <;> simp [lastF] <;> rintro rfl <;> decide
theorem do_set (l : List Bool) (h : l.length ≤ 3) (i : Nat) (hi : firstF l 0 l.length = some i) (hs : staysB l false = true) : staysB (l.set i true) false = true ∧ cntN (l.set i true) + 1 = cntN l := by
  match l, h with
  | [], _ => simp [firstF] at hi
  | [x], _ => revert hi hs; cases x <;> simp [firstF] <;> rintro rfl <;> decide
  | [x, y], _ => revert hi hs; cases x <;> cases y <;> simp [firstF] <;> rintro rfl <;> decide
  | [x, y, z], _ => revert hi hs; cases x <;> cases y <;> cases z <;> simp [firstF] <;> rintro rfl <;> decide
theorem none_stays (l : List Bool) (h : l.length ≤ 3) (hn : hasB l true = false) : staysB l true = true := by
  match l, h with
  | [], _ => decide
  | [x], _ => revert hn; cases x <;> decide
  | [x, y], _ => revert hn; cases x <;> cases y <;> decide
  | [x, y, z], _ => revert hn; cases x <;> cases y <;> cases z <;> decide
/-! What is sent, by ways. -/
theorem dec_len (o : Od) (f : Fa) (k : Int) : (decL o f k).length ≤ 2 := by unfold decL; cases f.k0 <;> cases f.k1 <;> simp
theorem dec_nil {o : Od} {f : Fa} {k : Int} : decL o f k = [] ↔ (f.k0 && f.k1) = true := by unfold decL; cases f.k0 <;> cases f.k1 <;> simp
theorem need_from {o : Od} {f : Fa} {i : Nat} {m : Mg} (h : (needF o f)[i]? = some m) : m.fr = 0 ∧ m.id = o.id := by
  have hm := List.mem_of_getElem? h
  revert hm
  unfold needF unL askL shipL decL prepL
  intro hm
  split at hm
  · rw [List.mem_append, List.mem_append] at hm
    rcases hm with (hm | hm) | hm
    · split at hm <;> simp [msgM] at hm; subst hm; exact ⟨rfl, rfl⟩
    · split at hm <;> simp [msgM] at hm; subst hm; exact ⟨rfl, rfl⟩
    · split at hm <;> simp [undoM] at hm; subst hm; exact ⟨rfl, rfl⟩
  · split at hm
    · rw [List.mem_append, List.mem_append] at hm
      rcases hm with (hm | hm) | hm
      · split at hm <;> simp [msgM] at hm; subst hm; exact ⟨rfl, rfl⟩
      · split at hm <;> simp [msgM] at hm; subst hm; exact ⟨rfl, rfl⟩
      · split at hm <;> simp [shipM] at hm; subst hm; exact ⟨rfl, rfl⟩
    · split at hm
      · simp at hm; rcases hm with rfl | rfl <;> exact ⟨rfl, rfl⟩
      · simp [doM] at hm; subst hm; exact ⟨rfl, rfl⟩
theorem need_dec {o : Od} {f : Fa} {i : Nat} {m : Mg} (h : (needF o f)[i]? = some m) (hk : m.k = 9 ∨ m.k = 10) : m.to = 1 ∨ m.to = 2 := by
  have hm := List.mem_of_getElem? h
  revert hm
  unfold needF unL askL shipL decL prepL
  intro hm
  split at hm
  · rw [List.mem_append, List.mem_append] at hm
    rcases hm with (hm | hm) | hm
    · split at hm <;> simp [msgM] at hm; subst hm; exact .inl rfl
    · split at hm <;> simp [msgM] at hm; subst hm; exact .inr rfl
    · split at hm <;> simp [undoM] at hm; subst hm; simp at hk
  · split at hm
    · rw [List.mem_append, List.mem_append] at hm
      rcases hm with (hm | hm) | hm
      · split at hm <;> simp [msgM] at hm; subst hm; exact .inl rfl
      · split at hm <;> simp [msgM] at hm; subst hm; exact .inr rfl
      · split at hm <;> simp [shipM] at hm; subst hm; simp at hk
    · split at hm
      · simp at hm; rcases hm with rfl | rfl <;> simp at hk
      · simp [doM] at hm; subst hm; simp at hk
theorem need_len (o : Od) (f : Fa) : (needF o f).length ≤ 3 := by
  have h1 := dec_len o f 10
  have h2 := dec_len o f 9
  unfold needF
  split
  · rw [List.length_append]; unfold unL; split <;> simp <;> omega
  · split
    · rw [List.length_append]; unfold shipL; split <;> simp <;> omega
    · unfold askL; split
      · simp [prepL]
      · simp
end Go.Proofs.Ytinbmnefdhkdfaa
