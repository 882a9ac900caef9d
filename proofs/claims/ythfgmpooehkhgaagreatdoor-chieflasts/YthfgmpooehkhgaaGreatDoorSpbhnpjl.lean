/-
  Own texts put together: GdG, GdM, PaM.
-/
import Derived.Test.YthfgmpooehkhgaaGreatDoorSpabdogb
import Derived.Maps.OwnSet
import Derived.Maps.RangeWalk
import Derived.Lib.SlKeysI
/-
  Maps keyed by int, whatever their elements: what one holds, as a function of the key; sums over its keys.
-/
namespace Go.Proofs.YthfgmpooehkhgaaGreatDoor.Gd
open Go Go.RowKit Go.Maps

/-- The map reads as g, its elements by enc. -/
def FitsG {α : Type} (enc : α → DataW Unit) (D : DataW Unit) (g : Int → Option α) : Prop :=
  IsMap D ∧ ∀ x : Int, (∀ z, D.atKey (.int .i64 x) z = (g x).elim z enc) ∧ Maps.has D (.int .i64 x) = (g x).isSome
def updO {α : Type} (g : Int → Option α) (id : Int) (v : Option α) : Int → Option α := fun x => if x = id then v else g x
theorem updO_same {α : Type} (g : Int → Option α) (id : Int) (v : Option α) : updO g id v id = v := by simp [updO]
theorem updO_other {α : Type} (g : Int → Option α) {id x : Int} (v : Option α) (hx : x ≠ id) : updO g id v x = g x := by simp [updO, hx]
theorem updO_id {α : Type} {g : Int → Option α} {id : Int} {v : Option α} (e : g id = v) : updO g id v = g := by
  funext x
  by_cases hx : x = id
  · subst hx; rw [updO_same, e]
  · rw [updO_other g v hx]
theorem FitsG.new {α : Type} (enc : α → DataW Unit) : FitsG enc (.map []) (fun _ => none) := ⟨isMap_empty, fun _ => ⟨fun _ => rfl, rfl⟩⟩
theorem FitsG.put {α : Type} {enc : α → DataW Unit} {D : DataW Unit} {g : Int → Option α} (f : FitsG enc D g) (id : Int) (c : α) : FitsG enc (D.put (.int .i64 id) (enc c)) (updO g id (some c)) := by
  refine ⟨f.1.put _ _, fun x => ?_⟩
  by_cases e : x = id
  · subst e
    have hk : WideAt.IsKeyLit (Lit.int .i64 x) := trivial
    rw [updO_same, has_put_same f.1 hk]
    exact ⟨fun z => atKey_put_same f.1 hk _ z, rfl⟩
  · rw [updO_other g _ e, has_put_other (by simpa using e)]
    exact ⟨fun z => by rw [atKey_put_other (by simpa using e)]; exact (f.2 x).1 z, (f.2 x).2⟩
theorem FitsG.del {α : Type} {enc : α → DataW Unit} {D : DataW Unit} {g : Int → Option α} (f : FitsG enc D g) (id : Int) : FitsG enc (D.del (.int .i64 id)) (updO g id none) := by
  refine ⟨f.1.del _, fun x => ?_⟩
  by_cases e : x = id
  · subst e
    rw [updO_same, has_del_same]
    exact ⟨fun z => atKey_del_same z, rfl⟩
  · rw [updO_other g _ e, has_del_other (by simpa using e)]
    exact ⟨fun z => by rw [atKey_del_other (by simpa using e)]; exact (f.2 x).1 z, (f.2 x).2⟩

section
variable {P : Program} {t k e : TypeId} {w : World} {b n : Nat} {D : DataW Unit} {g : Int → Option (Int × Int)}
end

section
variable {P : Program} {k : TypeId} {w : World} {b r n : Nat} {D : DataW Unit} {g : Int → Option (Int × Int)} {left : Lit → Bool} {cnt : Nat} {ss : List Int}
  {ops : Array Oper} {rest : List Oper} {o : Oper} {a : Act} {Q : Exit → Act → World → Prop}
end

/-- A sum over all keys, in whatever order. -/
theorem sum_nodup {N : Nat} : ∀ (l : List Int) (v : Int → Int), l.Nodup → (∀ x ∈ l, 0 ≤ x ∧ x < N) → (∀ x, x ∉ l → v x = 0) → (l.map v).sum = sumTo v N
  | [], v, _, _, h => by
    rw [List.map_nil, List.sum_nil, sumTo_congr (g := fun _ => 0) (fun k _ => h k (by simp)), sumTo_zero]
  | a :: l, v, hn, hb, h => by
    rw [List.nodup_cons] at hn
    have ih := sum_nodup l (upd v a 0) hn.2 (fun x hx => hb x (by simp [hx])) (fun x hx => by
      by_cases e : x = a
      · subst e; exact upd_same _ _ _
      · rw [upd_other _ _ e]; exact h x (by simp [e, hx]))
    rw [sumTo_upd, if_pos (hb a (by simp))] at ih
    have e1 : l.map (upd v a 0) = l.map v := List.map_congr_left (fun x hx => upd_other _ _ (fun e => hn.1 (e ▸ hx)))
    rw [e1] at ih
    rw [List.map_cons, List.sum_cons]
    omega
end Go.Proofs.YthfgmpooehkhgaaGreatDoor.Gd
/-
  A book of goods, plainly: what is on hand, what is free, what each id has reserved.
-/
namespace Go.Proofs.YthfgmpooehkhgaaGreatDoor.Gd
open Go.RowKit

/-- A book. -/
structure Sb where
  on : Int → Int
  fr : Int → Int
  r : Int → Option (Int × Int)
def amt (v : Option (Int × Int)) (k : Int) : Int := match v with | some c => if c.1 = k then c.2 else 0 | none => 0
/-- How many of item k the id x has reserved. -/
def resv (r : Int → Option (Int × Int)) (k x : Int) : Int := amt (r x) k
def isIt (k : Int) : Bool := decide (0 ≤ k ∧ k < 8)
theorem isIt_iff {k : Int} : isIt k = true ↔ 0 ≤ k ∧ k < 8 := by unfold isIt; simp
theorem resv_upd (r : Int → Option (Int × Int)) (id : Int) (v : Option (Int × Int)) (k : Int) : resv (updO r id v) k = upd (resv r k) id (amt v k) := by
  funext x
  unfold resv
  by_cases e : x = id
  · subst e; rw [updO_same, upd_same]
  · rw [updO_other _ _ e, upd_other _ _ e]

/-- What a book keeps to. -/
structure GoodS (s : Sb) : Prop where
  nn : ∀ k, 0 ≤ k → k < 8 → 0 ≤ s.fr k
  top : ∀ k, 0 ≤ k → k < 8 → s.on k ≤ 1000000000
  at_ : ∀ x c, s.r x = some c → (1 ≤ x ∧ x ≤ 999) ∧ (0 ≤ c.1 ∧ c.1 < 8) ∧ 1 ≤ c.2
  tot : ∀ k, 0 ≤ k → k < 8 → s.on k = s.fr k + sumTo (resv s.r k) 1000
theorem GoodS.pos {s : Sb} (g : GoodS s) (k x : Int) : 0 ≤ resv s.r k x := by
  unfold resv amt
  cases h : s.r x with
  | none => exact Int.le_refl _
  | some c =>
    have := (g.at_ x c h).2.2
    dsimp only
    split <;> omega
theorem GoodS.le {s : Sb} (g : GoodS s) {x : Int} {c : Int × Int} (h : s.r x = some c) : s.fr c.1 + c.2 ≤ s.on c.1 := by
  obtain ⟨h1, h2, h3⟩ := g.at_ x c h
  have h4 := le_sumTo (h := resv s.r c.1) (g.pos c.1) 1000 x (by omega) (by omega)
  have h5 : resv s.r c.1 x = c.2 := by unfold resv; rw [h]; exact if_pos rfl
  have h6 := g.tot c.1 h2.1 h2.2
  omega
/-- A book of what l says. -/
def newS (l : List Int) : Sb := ⟨fun k => clampA (l.getD k.toNat 0), fun k => clampA (l.getD k.toNat 0), fun _ => none⟩
theorem clampA_bd (a : Int) : 0 ≤ clampA a ∧ clampA a ≤ 1000000000 := by unfold clampA; split <;> (try split) <;> omega
theorem resv_none (k : Int) : resv (fun _ => none) k = fun _ => 0 := rfl
theorem GoodS.new (l : List Int) : GoodS (newS l) := by
  refine ⟨fun k _ _ => (clampA_bd _).1, fun k _ _ => (clampA_bd _).2, fun x c h => (by cases h), fun k _ _ => ?_⟩
  show clampA _ = clampA _ + sumTo (resv (fun _ => none) k) 1000
  rw [resv_none, sumTo_zero, Int.add_zero]

def resE (s : Sb) (id item qty : Int) : Int :=
  if isI id = true ∧ isIt item = true ∧ 1 ≤ qty ∧ qty ≤ 1000000000 then (if (s.r id).isSome = true then 8 else if qty ≤ s.fr item then 0 else 9) else 1
def resS (s : Sb) (id item qty : Int) : Sb := if resE s id item qty = 0 then ⟨s.on, upd s.fr item (s.fr item - qty), updO s.r id (some (item, qty))⟩ else s
def relS (s : Sb) (id : Int) : Sb := match s.r id with | some c => ⟨s.on, upd s.fr c.1 (s.fr c.1 + c.2), updO s.r id none⟩ | none => s
theorem resE_ok {s : Sb} {id item qty : Int} (e : resE s id item qty = 0) : (1 ≤ id ∧ id ≤ 999) ∧ (0 ≤ item ∧ item < 8) ∧ (1 ≤ qty ∧ qty ≤ s.fr item) ∧ s.r id = none := by
  unfold resE at e
  split at e
  · rename_i hc
    split at e
    · omega
    · rename_i hs
      split at e
      · exact ⟨isI_iff.1 hc.1, isIt_iff.1 hc.2.1, ⟨hc.2.2.1, by assumption⟩, by simpa using hs⟩
      · omega
  · omega
theorem resS_ok {s : Sb} {id item qty : Int} (e : resE s id item qty = 0) : resS s id item qty = ⟨s.on, upd s.fr item (s.fr item - qty), updO s.r id (some (item, qty))⟩ := if_pos e
theorem resS_no {s : Sb} {id item qty : Int} (e : resE s id item qty ≠ 0) : resS s id item qty = s := if_neg e
theorem relS_some {s : Sb} {id : Int} {c : Int × Int} (h : s.r id = some c) : relS s id = ⟨s.on, upd s.fr c.1 (s.fr c.1 + c.2), updO s.r id none⟩ := by unfold relS; rw [h]
theorem relS_none {s : Sb} {id : Int} (h : s.r id = none) : relS s id = s := by unfold relS; rw [h]
theorem upd_at (h : Int → Int) (id v x : Int) : upd h id v x = if x = id then v else h x := rfl
theorem GoodS.res {s : Sb} (g : GoodS s) (id item qty : Int) : GoodS (resS s id item qty) := by
  by_cases e : resE s id item qty = 0
  · rw [resS_ok e]
    obtain ⟨h1, h2, h3, h4⟩ := resE_ok e
    refine ⟨fun k k0 k1 => ?_, g.top, fun x c h => ?_, fun k k0 k1 => ?_⟩
    · dsimp only
      rw [upd_at]
      split
      · omega
      · exact g.nn k k0 k1
    · dsimp only at h
      by_cases ex : x = id
      · subst ex
        rw [updO_same] at h
        cases h
        have := g.top item h2.1 h2.2
        exact ⟨h1, h2, h3.1⟩
      · rw [updO_other _ _ ex] at h
        exact g.at_ x c h
    · dsimp only
      have ht := g.tot k k0 k1
      have h0 : resv s.r k id = 0 := by unfold resv; rw [h4]; rfl
      rw [resv_upd, sumTo_upd, if_pos (by omega), h0, upd_at]
      unfold amt
      dsimp only
      by_cases ek : k = item
      · subst ek; rw [if_pos rfl, if_pos rfl]; omega
      · rw [if_neg ek, if_neg (fun e => ek e.symm)]; omega
  · rw [resS_no e]; exact g
theorem GoodS.rel {s : Sb} (g : GoodS s) (id : Int) : GoodS (relS s id) := by
  cases h : s.r id with
  | none => rw [relS_none h]; exact g
  | some c =>
    rw [relS_some h]
    obtain ⟨h1, h2, h3⟩ := g.at_ id c h
    refine ⟨fun k k0 k1 => ?_, g.top, fun x d hx => ?_, fun k k0 k1 => ?_⟩
    · dsimp only
      have := g.nn k k0 k1
      rw [upd_at]
      split
      · rename_i e; subst e; omega
      · exact this
    · dsimp only at hx
      by_cases ex : x = id
      · subst ex; rw [updO_same] at hx; cases hx
      · rw [updO_other _ _ ex] at hx; exact g.at_ x d hx
    · dsimp only
      have ht := g.tot k k0 k1
      have hr : resv s.r k id = if c.1 = k then c.2 else 0 := by unfold resv; rw [h]; rfl
      rw [resv_upd, sumTo_upd, if_pos (by omega), hr, upd_at]
      unfold amt
      dsimp only
      by_cases ek : k = c.1
      · subst ek; rw [if_pos rfl, if_pos rfl]; omega
      · rw [if_neg ek, if_neg (fun e => ek e.symm)]; omega
end Go.Proofs.YthfgmpooehkhgaaGreatDoor.Gd
/-
  A book of parcels, plainly: a row of (id, item, how many), in the order in which they went.
-/
namespace Go.Proofs.YthfgmpooehkhgaaGreatDoor.Gd.Pu.Pa
open Go.RowKit

/-- A parcel: whose, of which item, how many. -/
def findP : List (Int × Int × Int) → Int → Option (Int × Int)
  | [], _ => none
  | p :: l, id => if p.1 = id then some p.2 else findP l id
def idsP (l : List (Int × Int × Int)) : List Int := l.map (fun p => p.1)
/-- What a book keeps to. -/
structure GoodC (l : List (Int × Int × Int)) : Prop where
  nd : (idsP l).Nodup
  at_ : ∀ p ∈ l, (1 ≤ p.1 ∧ p.1 ≤ 999) ∧ (0 ≤ p.2.1 ∧ p.2.1 < 8) ∧ 1 ≤ p.2.2 ∧ p.2.2 ≤ 1000000000
def shipE (l : List (Int × Int × Int)) (id k q : Int) : Int :=
  if isI id = true ∧ isIt k = true ∧ 1 ≤ q ∧ q ≤ 1000000000 then (if (findP l id).isSome = true then 8 else 0) else 1
def shipL (l : List (Int × Int × Int)) (id k q : Int) : List (Int × Int × Int) := if shipE l id k q = 0 then l ++ [(id, k, q)] else l
theorem shipL_ok {l : List (Int × Int × Int)} {id k q : Int} (e : shipE l id k q = 0) : shipL l id k q = l ++ [(id, k, q)] := if_pos e
theorem shipL_no {l : List (Int × Int × Int)} {id k q : Int} (e : shipE l id k q ≠ 0) : shipL l id k q = l := if_neg e
theorem shipE_ok {l : List (Int × Int × Int)} {id k q : Int} (e : shipE l id k q = 0) : (1 ≤ id ∧ id ≤ 999) ∧ (0 ≤ k ∧ k < 8) ∧ (1 ≤ q ∧ q ≤ 1000000000) ∧ findP l id = none := by
  unfold shipE at e
  split at e
  · rename_i hc
    split at e
    · omega
    · rename_i hs
      exact ⟨isI_iff.1 hc.1, isIt_iff.1 hc.2.1, hc.2.2, by simpa using hs⟩
  · omega
theorem findP_none {l : List (Int × Int × Int)} {id : Int} : findP l id = none ↔ id ∉ idsP l := by
  induction l with
  | nil => simp [findP, idsP]
  | cons p l ih =>
    unfold idsP at ih ⊢
    rw [List.map_cons, List.mem_cons, findP]
    by_cases e : p.1 = id
    · rw [if_pos e]; simp [e]
    · rw [if_neg e, ih]
      exact ⟨fun h x => x.elim (fun x => e x.symm) h, fun h x => h (.inr x)⟩
theorem idsP_ship {l : List (Int × Int × Int)} {id k q : Int} (e : shipE l id k q = 0) : idsP (shipL l id k q) = idsP l ++ [id] := by rw [shipL_ok e]; unfold idsP; rw [List.map_append]; rfl
theorem idsP_len (l : List (Int × Int × Int)) : (idsP l).length = l.length := by unfold idsP; rw [List.length_map]
theorem GoodC.new : GoodC [] := ⟨List.nodup_nil, fun _ h => by cases h⟩
theorem GoodC.ship {l : List (Int × Int × Int)} (g : GoodC l) (id k q : Int) : GoodC (shipL l id k q) := by
  by_cases e : shipE l id k q = 0
  · obtain ⟨h1, h2, h3, h4⟩ := shipE_ok e
    refine ⟨?_, ?_⟩
    · rw [idsP_ship e, List.nodup_append]
      refine ⟨g.nd, by simp, fun a ha b hb => ?_⟩
      rw [List.mem_singleton] at hb
      subst hb
      exact fun e => findP_none.1 h4 (e ▸ ha)
    · rw [shipL_ok e]
      intro p hp
      rcases List.mem_append.1 hp with h | h
      · exact g.at_ p h
      · rw [List.mem_singleton] at h
        subst h
        exact ⟨h1, h2, h3⟩
  · rw [shipL_no e]; exact g
theorem nodup_few : ∀ (N : Nat) (l : List Int), l.Nodup → (∀ x ∈ l, 0 ≤ x ∧ x < N) → l.length ≤ N := fun N l hn hb => by
  have h1 := sum_nodup (N := N) l (fun x => if x ∈ l then 1 else 0) hn hb (fun x hx => if_neg hx)
  have h2 : l.map (fun x => if x ∈ l then (1 : Int) else 0) = l.map (fun _ => 1) := List.map_congr_left (fun x hx => if_pos hx)
  have h3 : ∀ m : List Int, (m.map (fun _ => (1 : Int))).sum = m.length := fun m => by
    induction m with
    | nil => rfl
    | cons a m ih => rw [List.map_cons, List.sum_cons, ih, List.length_cons]; omega
  have h4 : ∀ n : Nat, sumTo (fun x => if x ∈ l then (1 : Int) else 0) n ≤ n := fun n => by
    induction n with
    | zero => exact Int.le_refl _
    | succ n ih =>
      rw [sumTo]
      have : (if ((n : Int)) ∈ l then (1 : Int) else 0) ≤ 1 := by split <;> omega
      omega
  rw [h2, h3] at h1
  have := h4 N
  omega
theorem GoodC.len {l : List (Int × Int × Int)} (g : GoodC l) : l.length ≤ 1000 := by
  rw [← idsP_len]
  refine nodup_few 1000 _ g.nd (fun x hx => ?_)
  unfold idsP at hx
  obtain ⟨p, hp, rfl⟩ := List.mem_map.1 hx
  have := (g.at_ p hp).1
  omega
end Go.Proofs.YthfgmpooehkhgaaGreatDoor.Gd.Pu.Pa
