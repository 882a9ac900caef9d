/-
  What is seen of a book of money behind a step, plainly.
-/
import Derived.Test.YtpahgoehpkohiaaPrsQ
namespace Go.Proofs.Ytpahgoehpkohiaa
open Go.RowKit

theorem new_view (l : List Int) : (∀ k, (newP l).m k = clampA (l.getD k.toNat 0)) ∧ (∀ k, alwK (newP l) k = 0) ∧ allA (newP l) = 0 ∧ (newP l).till = 0 ∧ (∀ x, (newP l).p x = 0) ∧ (∀ x, (newP l).a x = none) := by
  refine ⟨fun _ => rfl, fun k => ?_, ?_, rfl, fun _ => rfl, fun _ => rfl⟩
  · show sumTo (resv (fun _ => none) k) 1000 = 0
    rw [resv_none, sumTo_zero]
  · show sumTo (alw (fun _ => none)) 1000 = 0
    rw [alw_none, sumTo_zero]
theorem alw_view {s : Pb} {id k q : Int} (e : alwE s id k q = 0) : (alwS s id k q).m = s.m ∧ (alwS s id k q).till = s.till ∧ (alwS s id k q).p = s.p ∧ (alwS s id k q).a = updO s.a id (some (k, q)) ∧ (∀ j, alwK (alwS s id k q) j = alwK s j + (if k = j then q else 0)) ∧ allA (alwS s id k q) = allA s + q := by
  obtain ⟨h1, h2, h3, h4, h5, h6, h7⟩ := alwE_ok e
  rw [alwS_ok e]
  refine ⟨rfl, rfl, rfl, rfl, fun j => ?_, ?_⟩
  · rw [alwK_upd s (by omega) (by omega)]
    have z1 : resv s.a j id = 0 := by unfold resv; rw [h4]; rfl
    rw [z1]
    show alwK s j + ((if k = j then q else 0) - 0) = _
    omega
  · rw [allA_upd s (by omega) (by omega)]
    have z2 : alw s.a id = 0 := by unfold alw; rw [h4]; rfl
    rw [z2]
    show allA s + (q - 0) = _
    omega
theorem cap_view {s : Pb} (g : GoodP s) {id k q : Int} (h : s.a id = some (k, q)) : (capS s id).m = upd s.m k (s.m k - q) ∧ (capS s id).till = s.till + q ∧ (capS s id).p = upd s.p id q ∧ (capS s id).a = updO s.a id none ∧ (∀ j, alwK (capS s id) j = alwK s j - (if k = j then q else 0)) ∧ allA (capS s id) = allA s - q := by
  obtain ⟨h1, -⟩ := g.at_ id _ h
  rw [capS_some h]
  refine ⟨rfl, rfl, rfl, rfl, fun j => ?_, ?_⟩
  · rw [alwK_upd s (by omega) (by omega)]
    have z1 : resv s.a j id = if k = j then q else 0 := by unfold resv; rw [h]; rfl
    rw [z1]
    show alwK s j + (0 - _) = _
    omega
  · rw [allA_upd s (by omega) (by omega)]
    have z2 : alw s.a id = q := by unfold alw; rw [h]; rfl
    rw [z2]
    show allA s + (0 - q) = _
    omega
theorem void_view {s : Pb} (g : GoodP s) {id k q : Int} (h : s.a id = some (k, q)) : (voidS s id).m = s.m ∧ (voidS s id).till = s.till ∧ (voidS s id).p = s.p ∧ (voidS s id).a = updO s.a id none ∧ (∀ j, alwK (voidS s id) j = alwK s j - (if k = j then q else 0)) ∧ allA (voidS s id) = allA s - q := by
  obtain ⟨h1, -⟩ := g.at_ id _ h
  rw [voidS_some h]
  refine ⟨rfl, rfl, rfl, rfl, fun j => ?_, ?_⟩
  · rw [alwK_upd s (by omega) (by omega)]
    have z1 : resv s.a j id = if k = j then q else 0 := by unfold resv; rw [h]; rfl
    rw [z1]
    show alwK s j + (0 - _) = _
    omega
  · rw [allA_upd s (by omega) (by omega)]
    have z2 : alw s.a id = q := by unfold alw; rw [h]; rfl
    rw [z2]
    show allA s + (0 - q) = _
    omega
theorem alwE_of {s : Pb} {id k q : Int} (h : (1 ≤ id ∧ id ≤ 999) ∧ (0 ≤ k ∧ k < 8) ∧ 1 ≤ q ∧ q ≤ 1000000000) : alwE s id k q = if (s.a id).isSome = true ∨ s.p id ≠ 0 then 8 else if q ≤ s.m k - alwK s k then (if s.till + allA s + q ≤ 1000000000 then 0 else 4) else 9 := by
  unfold alwE
  rw [if_pos ⟨isI_iff.2 h.1, isIt_iff.2 h.2.1, h.2.2⟩]
end Go.Proofs.Ytpahgoehpkohiaa
