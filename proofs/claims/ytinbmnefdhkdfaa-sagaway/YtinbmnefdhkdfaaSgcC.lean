/-
  Plain facts on an order's way: the last message by ways, and what its answer leaves.
-/
import Derived.Test.YtinbmnefdhkdfaaSgcB
namespace Go.Proofs.Ytinbmnefdhkdfaa
open Go

theorem getD_some {l : List Bool} {i : Nat} (hi : i < l.length) (h : l.getD i false = false) : l[i]? = some false := by
  rw [List.getD, List.getElem?_eq_getElem hi] at h
  rw [List.getElem?_eq_getElem hi]
  simpa using h
/-- The last message, and what its answer leaves. -/
def LastW (o : Od) (f : Fa) (L : List Mg) (z : Nat) (m : Mg) : Prop :=
  (∃ i, i < o.steps.length ∧ m = doM o i ∧ f.dn[i]? = some false ∧ ∀ yes, WayOk o f (ackJ { f with dn := f.dn.set i yes, turned := !yes } L z) yes) ∨
  (m.k = 6 ∧ ∀ yes, WayOk o f (ackJ { f with asked := true, yes := yes, turned := !yes } L z) yes) ∨
  (∃ i, i < o.steps.length ∧ m = undoM o i ∧ f.un[i]? = some false ∧ ∀ yes, WayOk o f (ackJ { f with un := f.un.set i yes } L z) yes) ∨
  (m.k = 15 ∧ ∀ yes, WayOk o f (ackJ { f with ship := yes } L z) yes) ∨
  (∃ K, (K = 9 ∨ K = 10) ∧ m = msgM o K 1 ∧ ∀ yes, WayOk o f (ackJ { f with k0 := yes } L z) yes) ∨
  (∃ K, (K = 9 ∨ K = 10) ∧ m = msgM o K 2 ∧ ∀ yes, WayOk o f (ackJ { f with k1 := yes } L z) yes)
theorem last_app {l : List Mg} {m : Mg} : (l ++ [m])[(l ++ [m]).length - 1]? = some m := by simp
theorem last_dec {o : Od} {f : Fa} (h : InvW o f) (hd : f.turned = true ∨ f.yes = true) {K : Int} (hK : K = 9 ∨ K = 10) (hn : ¬ (decL o f K).length = 0) : ∃ m, (decL o f K)[(decL o f K).length - 1]? = some m ∧ LastW o f (decL o f K) ((decL o f K).length - 1) m := by
  cases h1 : f.k1
  · refine ⟨msgM o K 2, by unfold decL; rw [h1]; simp, .inr (.inr (.inr (.inr (.inr ⟨K, hK, rfl, fun yes => ?_⟩))))⟩
    rw [ack_one K hK _ h1 (by rfl)]
    refine way_ack h hd true yes yes ?_
    rintro rfl
    rw [h1]
    cases f.k0 <;> decide
  · cases h0 : f.k0
    · have e : decL o f K = [msgM o K 1] := by unfold decL; rw [h0, h1]; rfl
      rw [e]
      refine ⟨msgM o K 1, rfl, .inr (.inr (.inr (.inr (.inl ⟨K, hK, rfl, fun yes => ?_⟩))))⟩
      show WayOk o f (ackJ { f with k0 := yes } _ 0) yes
      have := way_ack h hd yes f.k1 yes (by rintro rfl; rw [h0, h1]; decide)
      exact this
    · exfalso
      apply hn
      unfold decL
      rw [h0, h1]
      rfl
theorem last_way {o : Od} {f : Fa} (h : InvW o f) (hn : ¬ (needF o f).length = 0) : ∃ m, (needF o f)[(needF o f).length - 1]? = some m ∧ LastW o f (needF o f) ((needF o f).length - 1) m := by
  obtain ⟨hm, hd0, hd1⟩ := id h
  obtain ⟨ho, h1, h2, h4, h5, h6⟩ := mayN.1 hm
  cases ht : f.turned
  · cases hy : f.yes
    · cases hf : firstF f.dn 0 o.steps.length with
      | none =>
        have e : needF o f = prepL o := by unfold needF askL; rw [ht, hy, hf]; rfl
        rw [e]
        refine ⟨⟨6, 0, 2, o.id, 0, o.client, o.price⟩, rfl, .inr (.inl ⟨rfl, fun yes => ?_⟩)⟩
        exact way_prep h ht hy hf yes
      | some i =>
        have e : needF o f = [doM o i] := by unfold needF askL; rw [ht, hy, hf]; rfl
        have hi := firstF_some _ _ _ hf
        rw [e]
        refine ⟨doM o i, rfl, .inl ⟨i, by omega, rfl, getD_some (by omega) hi.2.2, fun yes => ?_⟩⟩
        exact way_do h ht hy hf yes
    · cases hs : f.ship
      · have e : needF o f = decL o f 9 ++ [shipM o] := by unfold needF shipL; rw [ht, hy, hs]; rfl
        rw [e]
        refine ⟨shipM o, last_app, .inr (.inr (.inr (.inl ⟨rfl, fun yes => ?_⟩)))⟩
        rw [ack_dec 9 (.inl rfl) _ _ (by rfl) (by rfl)]
        exact way_ship h ht hy hs yes
      · have e : needF o f = decL o f 9 := by unfold needF shipL; rw [ht, hy, hs]; simp
        rw [e] at hn ⊢
        exact last_dec h (.inr hy) (.inl rfl) hn
  · cases hla : lastF f.un o.steps.length with
    | none =>
      have e : needF o f = decL o f 10 := by unfold needF unL; rw [ht, hla]; simp
      rw [e] at hn ⊢
      exact last_dec h (.inl ht) (.inr rfl) hn
    | some i =>
      have e : needF o f = decL o f 10 ++ [undoM o i] := by unfold needF unL; rw [ht, hla]; simp
      have hi := lastF_some _ _ hla
      rw [e]
      refine ⟨undoM o i, last_app, .inr (.inr (.inl ⟨i, hi.1, rfl, getD_some (by omega) hi.2, fun yes => ?_⟩))⟩
      rw [ack_dec 10 (.inr rfl) _ _ (by rfl) (by rfl)]
      exact way_undo h ht hla yes
end Go.Proofs.Ytinbmnefdhkdfaa
