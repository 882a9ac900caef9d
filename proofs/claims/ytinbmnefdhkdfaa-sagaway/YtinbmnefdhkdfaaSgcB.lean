/-
  Plain facts on an order's way: each answer.
-/
import Derived.Test.YtinbmnefdhkdfaaSgcA
namespace Go.Proofs.Ytinbmnefdhkdfaa
open Go

/-- What an answer leaves: it may be, at most seven are left, one less where it said yes. -/
def WayOk (o : Od) (f f' : Fa) (yes : Bool) : Prop := InvW o f' ∧ muF f' ≤ 7 ∧ (yes = true → muF f' + 1 ≤ muF f)
section
variable {o : Od} {f : Fa}
theorem InvW.three (h : InvW o f) : o.steps.length ≤ 3 := mayO_three (mayN.1 h.1).1
theorem InvW.mu (h : InvW o f) : muF f ≤ 7 := by
  have h3 := h.three
  obtain ⟨_, h1, h2, _⟩ := mayN.1 h.1
  have e1 := cntN_le f.dn
  have e2 := cntN_le f.un
  unfold muF one
  split
  · split <;> split <;> omega
  · split
    · split <;> split <;> split <;> omega
    · omega
theorem InvW.over (h : InvW o f) : overF o f = decide ((needF o f).length = 0) := by
  have h3 := h.three
  obtain ⟨hm, hd0, hd1⟩ := h
  obtain ⟨ho, h1, h2, h4, h5, h6⟩ := mayN.1 hm
  have hm' : mayF o { f with acc := true } = true := mayN.2 ⟨ho, h1, h2, h4, h5, h6⟩
  have hl := last_none f.un (by omega)
  rw [h2] at hl
  unfold overF stF
  rw [hm']
  dsimp only
  rw [hd0, hd1]
  simp only [Bool.or_self, Bool.false_and, Bool.false_eq_true, if_false, reduceCtorEq]
  unfold needF
  cases ht : f.turned
  · simp only [Bool.false_and, Bool.false_eq_true, if_false]
    cases hy : f.yes
    · simp only [Bool.false_and, Bool.false_eq_true, if_false]
      unfold askL
      cases f.asked <;> cases hf : firstF f.dn 0 o.steps.length <;> simp [prepL]
    · simp only [Bool.true_and, if_true]
      unfold decL shipL
      cases f.k0 <;> cases f.k1 <;> cases f.ship <;> simp
  · simp only [Bool.true_and, if_true]
    unfold decL unL
    cases hla : lastF f.un o.steps.length with
    | none =>
      rw [hl.1 hla]
      cases f.k0 <;> cases f.k1 <;> simp
    | some i =>
      have : allB f.un = false := by
        cases he : allB f.un
        · rfl
        · rw [hl.2 he] at hla; cases hla
      rw [this]
      cases f.k0 <;> cases f.k1 <;> simp
theorem InvW.end (h : InvW o f) (hn : (needF o f).length = 0) : (stF o f = 5 ∧ f.yes = true) ∨ (stF o f = 6 ∧ f.turned = true) := by
  have h3 := h.three
  obtain ⟨hm, hd0, hd1⟩ := h
  obtain ⟨ho, h1, h2, h4, h5, h6⟩ := mayN.1 hm
  have hl := last_none f.un (by omega)
  rw [h2] at hl
  revert hn
  unfold needF stF
  rw [hm, hd0, hd1]
  simp only [Bool.or_self, Bool.false_and, Bool.false_eq_true, if_false, reduceCtorEq]
  cases ht : f.turned
  · simp only [Bool.false_and, Bool.false_eq_true, if_false]
    cases hy : f.yes
    · simp only [Bool.false_and, Bool.false_eq_true, if_false]
      unfold askL
      cases hf : firstF f.dn 0 o.steps.length <;> simp [prepL]
    · simp only [Bool.true_and, if_true]
      unfold decL shipL
      cases f.k0 <;> cases f.k1 <;> cases f.ship <;> simp
  · simp only [Bool.true_and, if_true]
    unfold decL unL
    cases hla : lastF f.un o.steps.length with
    | none =>
      rw [hl.1 hla]
      cases f.k0 <;> cases f.k1 <;> simp
    | some i => cases f.k0 <;> cases f.k1 <;> simp
/-- A row of messages that are acked. -/
theorem ack_dec (k : Int) (hk : k = 9 ∨ k = 10) (g : Fa) (m : Mg) (h0 : g.k0 = f.k0) (h1 : g.k1 = f.k1) : ackJ g (decL o f k ++ [m]) ((decL o f k ++ [m]).length - 1) = { g with k0 := true, k1 := true } := by
  have e : (decL o f k ++ [m]).length - 1 = (decL o f k).length := by simp
  unfold ackJ
  rw [e, List.take_left]
  unfold decL msgM ackM
  obtain ⟨dn, un, asked, yes, turned, k0, k1, ship, d0, d1, acc⟩ := g
  dsimp only at h0 h1
  rw [← h0, ← h1]
  cases k0 <;> cases k1 <;> simp [hk]
theorem ack_one (k : Int) (hk : k = 9 ∨ k = 10) (g : Fa) (h1 : f.k1 = false) (h0 : g.k0 = f.k0) : ackJ g (decL o f k) ((decL o f k).length - 1) = { g with k0 := true } := by
  unfold ackJ decL msgM ackM
  obtain ⟨dn, un, asked, yes, turned, k0, k1, ship, d0, d1, acc⟩ := g
  dsimp only at h0
  rw [← h0, h1]
  cases k0 <;> simp [hk]
/-- A step is asked for. -/
theorem way_do (h : InvW o f) (ht : f.turned = false) (hy : f.yes = false) {i : Nat} (hi : firstF f.dn 0 o.steps.length = some i) (yes : Bool) : WayOk o f { f with dn := f.dn.set i yes, turned := !yes } yes := by
  have h3 := h.three
  obtain ⟨hm, hd0, hd1⟩ := h
  obtain ⟨ho, h1, h2, h4, h5, h6⟩ := mayN.1 hm
  unfold decF at h4
  unfold donF at h5
  unfold undF at h6
  rw [ht, hy, hd0, hd1] at h4
  rw [ht, hy] at h5
  rw [ht] at h6
  simp only [Bool.false_eq_true, if_false, Bool.and_eq_true, Bool.not_eq_true', Bool.not_false] at h4 h5 h6
  have hs := do_set f.dn (by omega) i (by rw [h1]; exact hi) h5
  have hu := none_stays f.un (by omega) h6
  have hI : InvW o { f with dn := f.dn.set i yes, turned := !yes } := by
    refine ⟨mayN.2 ⟨ho, by simp [h1], h2, ?_, ?_, ?_⟩, hd0, hd1⟩
    · unfold decF
      cases yes <;> simp [hy, hd0, hd1, h4]
    · unfold donF
      cases yes <;> simp [hy, hs.1]
    · unfold undF
      cases yes <;> simp [hu, h6]
  refine ⟨hI, hI.mu, ?_⟩
  rintro rfl
  unfold muF
  simp [ht, hy]
  omega
/-- Both are asked. -/
theorem way_prep (h : InvW o f) (ht : f.turned = false) (hy : f.yes = false) (hi : firstF f.dn 0 o.steps.length = none) (yes : Bool) : WayOk o f { f with asked := true, yes := yes, turned := !yes } yes := by
  have h3 := h.three
  obtain ⟨hm, hd0, hd1⟩ := h
  obtain ⟨ho, h1, h2, h4, h5, h6⟩ := mayN.1 hm
  unfold decF at h4
  unfold undF at h6
  rw [ht, hy, hd0, hd1] at h4
  rw [ht] at h6
  simp only [Bool.false_eq_true, if_false, Bool.and_eq_true, Bool.not_eq_true', Bool.not_false] at h4 h6
  have hs := (first_none f.dn (by omega)).1 (by rw [h1]; exact hi)
  have hu := none_stays f.un (by omega) h6
  have hI : InvW o { f with asked := true, yes := yes, turned := !yes } := by
    refine ⟨mayN.2 ⟨ho, h1, h2, ?_, ?_, ?_⟩, hd0, hd1⟩
    · unfold decF
      cases yes <;> simp [h4]
    · unfold donF
      cases yes <;> simp [hs]
    · unfold undF
      cases yes <;> simp [hu, h6]
  refine ⟨hI, hI.mu, ?_⟩
  rintro rfl
  unfold muF one
  simp [ht, hy]
  split <;> split <;> split <;> omega
/-- A step is undone. -/
theorem way_undo (h : InvW o f) (ht : f.turned = true) {i : Nat} (hi : lastF f.un o.steps.length = some i) (yes : Bool) : WayOk o f { f with un := f.un.set i yes, k0 := true, k1 := true } yes := by
  have h3 := h.three
  obtain ⟨hm, hd0, hd1⟩ := h
  obtain ⟨ho, h1, h2, h4, h5, h6⟩ := mayN.1 hm
  unfold decF at h4
  unfold undF at h6
  rw [ht] at h4
  rw [ht] at h6
  simp only [if_true, Bool.and_eq_true, Bool.not_eq_true'] at h4 h6
  have hs := undo_set f.un (by omega) i (by rw [h2]; exact hi) yes h6
  have hI : InvW o { f with un := f.un.set i yes, k0 := true, k1 := true } := by
    refine ⟨mayN.2 ⟨ho, h1, by simp [h2], ?_, ?_, ?_⟩, hd0, hd1⟩
    · unfold decF
      simp [ht, h4]
    · unfold donF
      simp [ht]
    · unfold undF
      simp [ht, hs.1]
  refine ⟨hI, hI.mu, ?_⟩
  rintro rfl
  have := hs.2
  unfold muF one
  simp only [ht, if_true] at this ⊢
  split <;> split <;> omega
/-- It is shipped. -/
theorem way_ship (h : InvW o f) (ht : f.turned = false) (hy : f.yes = true) (hsh : f.ship = false) (yes : Bool) : WayOk o f { f with ship := yes, k0 := true, k1 := true } yes := by
  obtain ⟨hm, hd0, hd1⟩ := h
  obtain ⟨ho, h1, h2, h4, h5, h6⟩ := mayN.1 hm
  unfold decF at h4
  unfold donF at h5
  unfold undF at h6
  rw [ht, hy] at h4 h5
  rw [ht] at h6
  simp only [Bool.false_eq_true, if_false, if_true] at h4 h5 h6
  have hI : InvW o { f with ship := yes, k0 := true, k1 := true } := by
    refine ⟨mayN.2 ⟨ho, h1, h2, ?_, ?_, ?_⟩, hd0, hd1⟩
    · unfold decF
      simp [ht, hy, h4]
    · unfold donF
      simp [ht, hy, h5]
    · unfold undF
      simp [ht, h6]
  refine ⟨hI, hI.mu, ?_⟩
  rintro rfl
  unfold muF one
  simp only [ht, hy, hsh, if_true, Bool.false_eq_true, if_false]
  split <;> split <;> omega
/-- A decision is answered: the acks x, y in place of what they were. -/
theorem way_ack (h : InvW o f) (hd : f.turned = true ∨ f.yes = true) (x y yes : Bool) (hmu : yes = true → one x + one y + 1 ≤ one f.k0 + one f.k1) : WayOk o f { f with k0 := x, k1 := y } yes := by
  obtain ⟨hm, hd0, hd1⟩ := h
  obtain ⟨ho, h1, h2, h4, h5, h6⟩ := mayN.1 hm
  have hI : InvW o { f with k0 := x, k1 := y } := by
    refine ⟨mayN.2 ⟨ho, h1, h2, ?_, h5, h6⟩, hd0, hd1⟩
    unfold decF at h4 ⊢
    revert h4
    dsimp only
    rcases hd with e | e
    · rw [e]; simp
    · rw [e]
      cases f.turned <;> simp
  refine ⟨hI, hI.mu, ?_⟩
  intro e
  have := hmu e
  unfold muF
  dsimp only
  split
  · omega
  · split
    · omega
    · rename_i hA hB
      rcases hd with e | e <;> contradiction
end
end Go.Proofs.Ytinbmnefdhkdfaa
