/-
  A book of money, plainly: what each client has, what is allowed for each id, the till, what each id has paid.
-/
import Derived.Test.YtpahgoehpkohiaaSckM
namespace Go.Proofs.Ytpahgoehpkohiaa
open Go.RowKit

/-- A book. -/
structure Pb where
  m : Int → Int
  a : Int → Option (Int × Int)
  till : Int
  p : Int → Int
def prc (v : Option (Int × Int)) : Int := match v with | some c => c.2 | none => 0
/-- What is allowed for x. -/
def alw (a : Int → Option (Int × Int)) (x : Int) : Int := prc (a x)
/-- All that is allowed; all that is allowed of the client k. -/
def allA (s : Pb) : Int := sumTo (alw s.a) 1000
def alwK (s : Pb) (k : Int) : Int := sumTo (resv s.a k) 1000
theorem alw_upd (a : Int → Option (Int × Int)) (id : Int) (v : Option (Int × Int)) : alw (updO a id v) = upd (alw a) id (prc v) := by
  funext x
  unfold alw
  by_cases e : x = id
  · subst e; rw [updO_same, upd_same]
  · rw [updO_other _ _ e, upd_other _ _ e]
/-- m 0 + .. + m 7 -/
def wealth (s : Pb) : Int := sumTo s.m 8 + s.till

/-- What a book keeps to. -/
structure GoodP (s : Pb) : Prop where
  tnn : 0 ≤ s.till
  at_ : ∀ x c, s.a x = some c → (1 ≤ x ∧ x ≤ 999) ∧ (0 ≤ c.1 ∧ c.1 < 8) ∧ 1 ≤ c.2 ∧ s.p x = 0
  pat : ∀ x, s.p x ≠ 0 → 1 ≤ x ∧ x ≤ 999
  pnn : ∀ x, 0 ≤ s.p x
  top : ∀ k, 0 ≤ k → k < 8 → s.m k ≤ 1000000000
  low : ∀ k, 0 ≤ k → k < 8 → alwK s k ≤ s.m k
  over : s.till + allA s ≤ 1000000000
  paid : sumTo s.p 1000 = s.till
theorem GoodP.pos {s : Pb} (g : GoodP s) (x : Int) : 0 ≤ alw s.a x := by
  unfold alw prc
  cases h : s.a x with
  | none => exact Int.le_refl _
  | some c => have := (g.at_ x c h).2.2.1; dsimp only; omega
theorem GoodP.posK {s : Pb} (g : GoodP s) (k x : Int) : 0 ≤ resv s.a k x := by
  unfold resv amt
  cases h : s.a x with
  | none => exact Int.le_refl _
  | some c =>
    have := (g.at_ x c h).2.2.1
    dsimp only
    split <;> omega
theorem GoodP.alwK_nn {s : Pb} (g : GoodP s) (k : Int) : 0 ≤ alwK s k := sumTo_nonneg (g.posK k) 1000
theorem GoodP.allA_nn {s : Pb} (g : GoodP s) : 0 ≤ allA s := sumTo_nonneg g.pos 1000
theorem GoodP.mnn {s : Pb} (g : GoodP s) {k : Int} (h0 : 0 ≤ k) (h1 : k < 8) : 0 ≤ s.m k := by
  have := g.low k h0 h1
  have := g.alwK_nn k
  omega
/-- What is allowed for one id is no more than what its client has, nor than what the till may still have. -/
theorem GoodP.le {s : Pb} (g : GoodP s) {x : Int} {c : Int × Int} (h : s.a x = some c) : c.2 ≤ alwK s c.1 ∧ c.2 ≤ allA s := by
  obtain ⟨h1, h2, h3, _⟩ := g.at_ x c h
  have h4 := le_sumTo (h := resv s.a c.1) (g.posK c.1) 1000 x (by omega) (by omega)
  have h5 : resv s.a c.1 x = c.2 := by unfold resv; rw [h]; exact if_pos rfl
  have h6 := le_sumTo (h := alw s.a) g.pos 1000 x (by omega) (by omega)
  have h7 : alw s.a x = c.2 := by unfold alw; rw [h]; rfl
  unfold alwK allA
  omega

/-- A book of what l says. -/
def newP (l : List Int) : Pb := ⟨fun k => clampA (l.getD k.toNat 0), fun _ => none, 0, fun _ => 0⟩
theorem alw_none : alw (fun _ => none) = fun _ => 0 := rfl
theorem GoodP.new (l : List Int) : GoodP (newP l) := by
  refine ⟨Int.le_refl _, fun x c h => (by cases h), fun x h => absurd rfl h, fun _ => Int.le_refl _, fun k _ _ => (clampA_bd _).2, fun k _ _ => ?_, ?_, ?_⟩
  · show sumTo (resv (fun _ => none) k) 1000 ≤ clampA _
    rw [resv_none, sumTo_zero]
    exact (clampA_bd _).1
  · show 0 + sumTo (alw (fun _ => none)) 1000 ≤ 1000000000
    rw [alw_none, sumTo_zero]
    omega
  · exact sumTo_zero

def alwE (s : Pb) (id k q : Int) : Int :=
  if isI id = true ∧ isIt k = true ∧ 1 ≤ q ∧ q ≤ 1000000000 then (if (s.a id).isSome = true ∨ s.p id ≠ 0 then 8 else if q ≤ s.m k - alwK s k then (if s.till + allA s + q ≤ 1000000000 then 0 else 4) else 9) else 1
def alwS (s : Pb) (id k q : Int) : Pb := if alwE s id k q = 0 then ⟨s.m, updO s.a id (some (k, q)), s.till, s.p⟩ else s
def capE (s : Pb) (id : Int) : Int := if (s.a id).isSome = true then 0 else 6
def capS (s : Pb) (id : Int) : Pb := match s.a id with | some c => ⟨upd s.m c.1 (s.m c.1 - c.2), updO s.a id none, s.till + c.2, upd s.p id c.2⟩ | none => s
def voidS (s : Pb) (id : Int) : Pb := match s.a id with | some _ => ⟨s.m, updO s.a id none, s.till, s.p⟩ | none => s
theorem alwE_ok {s : Pb} {id k q : Int} (e : alwE s id k q = 0) : (1 ≤ id ∧ id ≤ 999) ∧ (0 ≤ k ∧ k < 8) ∧ 1 ≤ q ∧ s.a id = none ∧ s.p id = 0 ∧ q ≤ s.m k - alwK s k ∧ s.till + allA s + q ≤ 1000000000 := by
  unfold alwE at e
  split at e
  · rename_i hc
    split at e
    · omega
    · rename_i hs
      have h1 : s.a id = none := by
        cases h : s.a id with
        | none => rfl
        | some c => exact absurd (.inl (by rw [h]; rfl)) hs
      have h2 : s.p id = 0 := by
        rcases Decidable.em (s.p id = 0) with h | h
        · exact h
        · exact absurd (.inr h) hs
      split at e
      · rename_i h3
        split at e
        · rename_i h4
          exact ⟨isI_iff.1 hc.1, isIt_iff.1 hc.2.1, hc.2.2.1, h1, h2, h3, h4⟩
        · omega
      · omega
  · omega
theorem alwS_ok {s : Pb} {id k q : Int} (e : alwE s id k q = 0) : alwS s id k q = ⟨s.m, updO s.a id (some (k, q)), s.till, s.p⟩ := if_pos e
theorem alwS_no {s : Pb} {id k q : Int} (e : alwE s id k q ≠ 0) : alwS s id k q = s := if_neg e
theorem capS_some {s : Pb} {id : Int} {c : Int × Int} (h : s.a id = some c) : capS s id = ⟨upd s.m c.1 (s.m c.1 - c.2), updO s.a id none, s.till + c.2, upd s.p id c.2⟩ := by unfold capS; rw [h]
theorem capS_none {s : Pb} {id : Int} (h : s.a id = none) : capS s id = s := by unfold capS; rw [h]
theorem voidS_some {s : Pb} {id : Int} {c : Int × Int} (h : s.a id = some c) : voidS s id = ⟨s.m, updO s.a id none, s.till, s.p⟩ := by unfold voidS; rw [h]
theorem voidS_none {s : Pb} {id : Int} (h : s.a id = none) : voidS s id = s := by unfold voidS; rw [h]
theorem capE_some {s : Pb} {id : Int} {c : Int × Int} (h : s.a id = some c) : capE s id = 0 := by unfold capE; rw [h]; rfl
theorem capE_none {s : Pb} {id : Int} (h : s.a id = none) : capE s id = 6 := by unfold capE; rw [h]; rfl

/-- The sums behind a step at id. -/
theorem alwK_upd (s : Pb) {id : Int} (h0 : 0 ≤ id) (h1 : id < 1000) (v : Option (Int × Int)) (m' : Int → Int) (t' : Int) (p' : Int → Int) (k : Int) : alwK ⟨m', updO s.a id v, t', p'⟩ k = alwK s k + (amt v k - resv s.a k id) := by
  unfold alwK
  dsimp only
  rw [resv_upd, sumTo_upd, if_pos ⟨h0, by omega⟩]
theorem allA_upd (s : Pb) {id : Int} (h0 : 0 ≤ id) (h1 : id < 1000) (v : Option (Int × Int)) (m' : Int → Int) (t' : Int) (p' : Int → Int) : allA ⟨m', updO s.a id v, t', p'⟩ = allA s + (prc v - alw s.a id) := by
  unfold allA
  dsimp only
  rw [alw_upd, sumTo_upd, if_pos ⟨h0, by omega⟩]
theorem GoodP.allow {s : Pb} (g : GoodP s) (id k q : Int) : GoodP (alwS s id k q) := by
  by_cases e : alwE s id k q = 0
  · rw [alwS_ok e]
    obtain ⟨h1, h2, h3, h4, h5, h6, h7⟩ := alwE_ok e
    have z1 : ∀ j, resv s.a j id = 0 := fun j => by unfold resv; rw [h4]; rfl
    have z2 : alw s.a id = 0 := by unfold alw; rw [h4]; rfl
    refine ⟨g.tnn, fun x c h => ?_, g.pat, g.pnn, g.top, fun j j0 j1 => ?_, ?_, g.paid⟩
    · dsimp only at h ⊢
      by_cases ex : x = id
      · subst ex; rw [updO_same] at h; cases h; exact ⟨h1, h2, h3, h5⟩
      · rw [updO_other _ _ ex] at h; exact g.at_ x c h
    · rw [alwK_upd s (by omega) (by omega), z1]
      have := g.low j j0 j1
      dsimp only [amt]
      split
      · rename_i ej; subst ej; omega
      · omega
    · rw [allA_upd s (by omega) (by omega), z2]
      dsimp only [prc]
      omega
  · rw [alwS_no e]; exact g
theorem GoodP.cap {s : Pb} (g : GoodP s) (id : Int) : GoodP (capS s id) := by
  cases h : s.a id with
  | none => rw [capS_none h]; exact g
  | some c =>
    rw [capS_some h]
    obtain ⟨h1, h2, h3, h4⟩ := g.at_ id c h
    have hl := g.le h
    have z1 : ∀ j, resv s.a j id = if c.1 = j then c.2 else 0 := fun j => by unfold resv; rw [h]; rfl
    have z2 : alw s.a id = c.2 := by unfold alw; rw [h]; rfl
    refine ⟨?_, fun x d hd => ?_, fun x hx => ?_, fun x => ?_, fun j j0 j1 => ?_, fun j j0 j1 => ?_, ?_, ?_⟩
    · have := g.tnn; dsimp only; omega
    · dsimp only at hd ⊢
      by_cases ex : x = id
      · subst ex; rw [updO_same] at hd; cases hd
      · rw [updO_other _ _ ex] at hd; rw [upd_other _ _ ex]; exact g.at_ x d hd
    · dsimp only at hx
      by_cases ex : x = id
      · subst ex; exact h1
      · rw [upd_other _ _ ex] at hx; exact g.pat x hx
    · dsimp only
      rw [upd_at]
      split
      · omega
      · exact g.pnn x
    · dsimp only
      have := g.top j j0 j1
      rw [upd_at]
      split
      · rename_i ej; subst ej; omega
      · exact this
    · rw [alwK_upd s (by omega) (by omega), z1]
      have := g.low j j0 j1
      dsimp only [amt]
      rw [upd_at]
      by_cases ej : j = c.1
      · subst ej; rw [if_pos rfl, if_pos rfl]; omega
      · rw [if_neg (fun e => ej e.symm), if_neg ej]; omega
    · rw [allA_upd s (by omega) (by omega), z2]
      have := g.over
      dsimp only [prc]
      omega
    · dsimp only
      rw [sumTo_upd, if_pos (by omega), h4, g.paid]
      omega
theorem GoodP.void {s : Pb} (g : GoodP s) (id : Int) : GoodP (voidS s id) := by
  cases h : s.a id with
  | none => rw [voidS_none h]; exact g
  | some c =>
    rw [voidS_some h]
    obtain ⟨h1, h2, h3, h4⟩ := g.at_ id c h
    have z1 : ∀ j, resv s.a j id = if c.1 = j then c.2 else 0 := fun j => by unfold resv; rw [h]; rfl
    have z2 : alw s.a id = c.2 := by unfold alw; rw [h]; rfl
    refine ⟨g.tnn, fun x d hd => ?_, g.pat, g.pnn, g.top, fun j j0 j1 => ?_, ?_, g.paid⟩
    · dsimp only at hd ⊢
      by_cases ex : x = id
      · subst ex; rw [updO_same] at hd; cases hd
      · rw [updO_other _ _ ex] at hd; exact g.at_ x d hd
    · rw [alwK_upd s (by omega) (by omega), z1]
      have := g.low j j0 j1
      dsimp only [amt]
      split <;> omega
    · rw [allA_upd s (by omega) (by omega), z2]
      have := g.over
      dsimp only [prc]
      omega
/-- All money together stays. -/
theorem cap_wealth {s : Pb} (g : GoodP s) (id : Int) : wealth (capS s id) = wealth s := by
  cases h : s.a id with
  | none => rw [capS_none h]
  | some c =>
    rw [capS_some h]
    have h2 := (g.at_ id c h).2.1
    unfold wealth
    dsimp only
    rw [sumTo_upd, if_pos (by omega)]
    omega
theorem allow_wealth (s : Pb) (id k q : Int) : wealth (alwS s id k q) = wealth s := by unfold alwS; split <;> rfl
theorem void_wealth (s : Pb) (id : Int) : wealth (voidS s id) = wealth s := by unfold voidS; split <;> rfl
end Go.Proofs.Ytpahgoehpkohiaa
