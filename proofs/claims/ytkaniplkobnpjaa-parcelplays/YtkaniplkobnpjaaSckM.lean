/-
  A book of goods, plainly: what is on hand, what is free, what each id has reserved.
-/
import Derived.Test.YtkaniplkobnpjaaMapG
namespace Go.Proofs.Ytkaniplkobnpjaa
open Go.RowKit

/-- A book. -/
structure Sb where
  on : Int → Int
  fr : Int → Int
  r : Int → Option (Int × Int)
def amt (v : Option (Int × Int)) (k : Int) : Int := match v with | some c => if c.1 = k then c.2 else 0 | none => 0
/-- How many of item k the id x has reserved. -/
def resv (r : Int → Option (Int × Int)) (k x : Int) : Int := amt (r x) k
def isIt (k : Int) : Bool := decide (0 ≤ k ∧ k < 8)
theorem isIt_iff {k : Int} : isIt k = true ↔ 0 ≤ k ∧ k < 8 := by unfold isIt; simp
theorem resv_upd (r : Int → Option (Int × Int)) (id : Int) (v : Option (Int × Int)) (k : Int) : resv (updO r id v) k = upd (resv r k) id (amt v k) := by
  funext x
  unfold resv
  by_cases e : x = id
  · subst e; rw [updO_same, upd_same]
  · rw [updO_other _ _ e, upd_other _ _ e]

/-- What a book keeps to. -/
structure GoodS (s : Sb) : Prop where
  nn : ∀ k, 0 ≤ k → k < 8 → 0 ≤ s.fr k
  top : ∀ k, 0 ≤ k → k < 8 → s.on k ≤ 1000000000
  at_ : ∀ x c, s.r x = some c → (1 ≤ x ∧ x ≤ 999) ∧ (0 ≤ c.1 ∧ c.1 < 8) ∧ 1 ≤ c.2
  tot : ∀ k, 0 ≤ k → k < 8 → s.on k = s.fr k + sumTo (resv s.r k) 1000
theorem GoodS.pos {s : Sb} (g : GoodS s) (k x : Int) : 0 ≤ resv s.r k x := by
  unfold resv amt
  cases h : s.r x with
  | none => exact Int.le_refl _
  | some c =>
    have := (g.at_ x c h).2.2
    dsimp only
    split <;> omega
theorem GoodS.le {s : Sb} (g : GoodS s) {x : Int} {c : Int × Int} (h : s.r x = some c) : s.fr c.1 + c.2 ≤ s.on c.1 := by
  obtain ⟨h1, h2, h3⟩ := g.at_ x c h
  have h4 := le_sumTo (h := resv s.r c.1) (g.pos c.1) 1000 x (by omega) (by omega)
  have h5 : resv s.r c.1 x = c.2 := by unfold resv; rw [h]; exact if_pos rfl
  have h6 := g.tot c.1 h2.1 h2.2
  omega
theorem GoodS.frle {s : Sb} (g : GoodS s) {k : Int} (h0 : 0 ≤ k) (h1 : k < 8) : s.fr k ≤ s.on k := by
  have := g.tot k h0 h1
  have := sumTo_nonneg (g.pos k) 1000
  omega

/-- A book of what l says. -/
def newS (l : List Int) : Sb := ⟨fun k => clampA (l.getD k.toNat 0), fun k => clampA (l.getD k.toNat 0), fun _ => none⟩
theorem clampA_bd (a : Int) : 0 ≤ clampA a ∧ clampA a ≤ 1000000000 := by unfold clampA; split <;> (try split) <;> omega
theorem clampA_id {a : Int} (h0 : 0 ≤ a) (h1 : a ≤ 1000000000) : clampA a = a := by unfold clampA; rw [if_neg (by omega), if_pos h1]
theorem resv_none (k : Int) : resv (fun _ => none) k = fun _ => 0 := rfl
theorem GoodS.new (l : List Int) : GoodS (newS l) := by
  refine ⟨fun k _ _ => (clampA_bd _).1, fun k _ _ => (clampA_bd _).2, fun x c h => (by cases h), fun k _ _ => ?_⟩
  show clampA _ = clampA _ + sumTo (resv (fun _ => none) k) 1000
  rw [resv_none, sumTo_zero, Int.add_zero]

def resE (s : Sb) (id item qty : Int) : Int :=
  if isI id = true ∧ isIt item = true ∧ 1 ≤ qty ∧ qty ≤ 1000000000 then (if (s.r id).isSome = true then 8 else if qty ≤ s.fr item then 0 else 9) else 1
def resS (s : Sb) (id item qty : Int) : Sb := if resE s id item qty = 0 then ⟨s.on, upd s.fr item (s.fr item - qty), updO s.r id (some (item, qty))⟩ else s
def unE (s : Sb) (id : Int) : Int := if (s.r id).isSome = true then 0 else 6
def comS (s : Sb) (id : Int) : Sb := match s.r id with | some c => ⟨upd s.on c.1 (s.on c.1 - c.2), s.fr, updO s.r id none⟩ | none => s
def relS (s : Sb) (id : Int) : Sb := match s.r id with | some c => ⟨s.on, upd s.fr c.1 (s.fr c.1 + c.2), updO s.r id none⟩ | none => s
theorem resE_ok {s : Sb} {id item qty : Int} (e : resE s id item qty = 0) : (1 ≤ id ∧ id ≤ 999) ∧ (0 ≤ item ∧ item < 8) ∧ (1 ≤ qty ∧ qty ≤ s.fr item) ∧ s.r id = none := by
  unfold resE at e
  split at e
  · rename_i hc
    split at e
    · omega
    · rename_i hs
      split at e
      · exact ⟨isI_iff.1 hc.1, isIt_iff.1 hc.2.1, ⟨hc.2.2.1, by assumption⟩, by simpa using hs⟩
      · omega
  · omega
theorem resS_ok {s : Sb} {id item qty : Int} (e : resE s id item qty = 0) : resS s id item qty = ⟨s.on, upd s.fr item (s.fr item - qty), updO s.r id (some (item, qty))⟩ := if_pos e
theorem resS_no {s : Sb} {id item qty : Int} (e : resE s id item qty ≠ 0) : resS s id item qty = s := if_neg e
theorem comS_some {s : Sb} {id : Int} {c : Int × Int} (h : s.r id = some c) : comS s id = ⟨upd s.on c.1 (s.on c.1 - c.2), s.fr, updO s.r id none⟩ := by unfold comS; rw [h]
theorem comS_none {s : Sb} {id : Int} (h : s.r id = none) : comS s id = s := by unfold comS; rw [h]
theorem relS_some {s : Sb} {id : Int} {c : Int × Int} (h : s.r id = some c) : relS s id = ⟨s.on, upd s.fr c.1 (s.fr c.1 + c.2), updO s.r id none⟩ := by unfold relS; rw [h]
theorem relS_none {s : Sb} {id : Int} (h : s.r id = none) : relS s id = s := by unfold relS; rw [h]
theorem unE_some {s : Sb} {id : Int} {c : Int × Int} (h : s.r id = some c) : unE s id = 0 := by unfold unE; rw [h]; rfl
theorem unE_none {s : Sb} {id : Int} (h : s.r id = none) : unE s id = 6 := by unfold unE; rw [h]; rfl
theorem upd_at (h : Int → Int) (id v x : Int) : upd h id v x = if x = id then v else h x := rfl
theorem GoodS.res {s : Sb} (g : GoodS s) (id item qty : Int) : GoodS (resS s id item qty) := by
  by_cases e : resE s id item qty = 0
  · rw [resS_ok e]
    obtain ⟨h1, h2, h3, h4⟩ := resE_ok e
    refine ⟨fun k k0 k1 => ?_, g.top, fun x c h => ?_, fun k k0 k1 => ?_⟩
    · dsimp only
      rw [upd_at]
      split
      · omega
      · exact g.nn k k0 k1
    · dsimp only at h
      by_cases ex : x = id
      · subst ex
        rw [updO_same] at h
        cases h
        have := g.top item h2.1 h2.2
        exact ⟨h1, h2, h3.1⟩
      · rw [updO_other _ _ ex] at h
        exact g.at_ x c h
    · dsimp only
      have ht := g.tot k k0 k1
      have h0 : resv s.r k id = 0 := by unfold resv; rw [h4]; rfl
      rw [resv_upd, sumTo_upd, if_pos (by omega), h0, upd_at]
      unfold amt
      dsimp only
      by_cases ek : k = item
      · subst ek; rw [if_pos rfl, if_pos rfl]; omega
      · rw [if_neg ek, if_neg (fun e => ek e.symm)]; omega
  · rw [resS_no e]; exact g
theorem GoodS.com {s : Sb} (g : GoodS s) (id : Int) : GoodS (comS s id) := by
  cases h : s.r id with
  | none => rw [comS_none h]; exact g
  | some c =>
    rw [comS_some h]
    obtain ⟨h1, h2, h3⟩ := g.at_ id c h
    refine ⟨g.nn, fun k k0 k1 => ?_, fun x d hx => ?_, fun k k0 k1 => ?_⟩
    · dsimp only
      have := g.top k k0 k1
      rw [upd_at]
      split
      · rename_i e; subst e; omega
      · exact this
    · dsimp only at hx
      by_cases ex : x = id
      · subst ex; rw [updO_same] at hx; cases hx
      · rw [updO_other _ _ ex] at hx; exact g.at_ x d hx
    · dsimp only
      have ht := g.tot k k0 k1
      have hr : resv s.r k id = if c.1 = k then c.2 else 0 := by unfold resv; rw [h]; rfl
      rw [resv_upd, sumTo_upd, if_pos (by omega), hr, upd_at]
      unfold amt
      dsimp only
      by_cases ek : k = c.1
      · subst ek; rw [if_pos rfl, if_pos rfl]; omega
      · rw [if_neg ek, if_neg (fun e => ek e.symm)]; omega
theorem GoodS.rel {s : Sb} (g : GoodS s) (id : Int) : GoodS (relS s id) := by
  cases h : s.r id with
  | none => rw [relS_none h]; exact g
  | some c =>
    rw [relS_some h]
    obtain ⟨h1, h2, h3⟩ := g.at_ id c h
    refine ⟨fun k k0 k1 => ?_, g.top, fun x d hx => ?_, fun k k0 k1 => ?_⟩
    · dsimp only
      have := g.nn k k0 k1
      rw [upd_at]
      split
      · rename_i e; subst e; omega
      · exact this
    · dsimp only at hx
      by_cases ex : x = id
      · subst ex; rw [updO_same] at hx; cases hx
      · rw [updO_other _ _ ex] at hx; exact g.at_ x d hx
    · dsimp only
      have ht := g.tot k k0 k1
      have hr : resv s.r k id = if c.1 = k then c.2 else 0 := by unfold resv; rw [h]; rfl
      rw [resv_upd, sumTo_upd, if_pos (by omega), hr, upd_at]
      unfold amt
      dsimp only
      by_cases ek : k = c.1
      · subst ek; rw [if_pos rfl, if_pos rfl]; omega
      · rw [if_neg ek, if_neg (fun e => ek e.symm)]; omega
end Go.Proofs.Ytkaniplkobnpjaa
