/-
  Own texts put together: GdG, GdM, PuM, PuQ, Gd7, PuV.
-/
import Derived.Test.YtepclljoiccieaaGreatDoorSgmbjnld
import Derived.Maps.OwnSet
import Derived.Maps.RangeWalk
import Derived.Lib.SlKeysI
import Derived.Test.YtepclljoiccieaaGreatDoorSghaagjg
/-
  Maps keyed by int, whatever their elements: what one holds, as a function of the key; sums over its keys.
-/
namespace Go.Proofs.YtepclljoiccieaaGreatDoor.Gd
open Go Go.RowKit Go.Maps

/-- The map reads as g, its elements by enc. -/
def FitsG {α : Type} (enc : α → DataW Unit) (D : DataW Unit) (g : Int → Option α) : Prop :=
  IsMap D ∧ ∀ x : Int, (∀ z, D.atKey (.int .i64 x) z = (g x).elim z enc) ∧ Maps.has D (.int .i64 x) = (g x).isSome
def updO {α : Type} (g : Int → Option α) (id : Int) (v : Option α) : Int → Option α := fun x => if x = id then v else g x
theorem updO_same {α : Type} (g : Int → Option α) (id : Int) (v : Option α) : updO g id v id = v := by simp [updO]
theorem updO_other {α : Type} (g : Int → Option α) {id x : Int} (v : Option α) (hx : x ≠ id) : updO g id v x = g x := by simp [updO, hx]
theorem updO_id {α : Type} {g : Int → Option α} {id : Int} {v : Option α} (e : g id = v) : updO g id v = g := by
  funext x
  by_cases hx : x = id
  · subst hx; rw [updO_same, e]
  · rw [updO_other g v hx]
theorem FitsG.new {α : Type} (enc : α → DataW Unit) : FitsG enc (.map []) (fun _ => none) := ⟨isMap_empty, fun _ => ⟨fun _ => rfl, rfl⟩⟩
theorem FitsG.put {α : Type} {enc : α → DataW Unit} {D : DataW Unit} {g : Int → Option α} (f : FitsG enc D g) (id : Int) (c : α) : FitsG enc (D.put (.int .i64 id) (enc c)) (updO g id (some c)) := by
  refine ⟨f.1.put _ _, fun x => ?_⟩
  by_cases e : x = id
  · subst e
    have hk : WideAt.IsKeyLit (Lit.int .i64 x) := trivial
    rw [updO_same, has_put_same f.1 hk]
    exact ⟨fun z => atKey_put_same f.1 hk _ z, rfl⟩
  · rw [updO_other g _ e, has_put_other (by simpa using e)]
    exact ⟨fun z => by rw [atKey_put_other (by simpa using e)]; exact (f.2 x).1 z, (f.2 x).2⟩
theorem FitsG.del {α : Type} {enc : α → DataW Unit} {D : DataW Unit} {g : Int → Option α} (f : FitsG enc D g) (id : Int) : FitsG enc (D.del (.int .i64 id)) (updO g id none) := by
  refine ⟨f.1.del _, fun x => ?_⟩
  by_cases e : x = id
  · subst e
    rw [updO_same, has_del_same]
    exact ⟨fun z => atKey_del_same z, rfl⟩
  · rw [updO_other g _ e, has_del_other (by simpa using e)]
    exact ⟨fun z => by rw [atKey_del_other (by simpa using e)]; exact (f.2 x).1 z, (f.2 x).2⟩

/-- An element of two numbers. -/
def encP (c : Int × Int) : DataW Unit := .agg [.lit (.int .i64 c.1), .lit (.int .i64 c.2)]
def pairV (c : Int × Int) : Value := .agg #[.int .i64 c.1, .int .i64 c.2]
def pairElem (v : Value) : Option (DataW Unit × List MemPlace) :=
  match v with
  | .agg cs =>
    match cs.toList with
    | [.int .i64 a, .int .i64 b] => some (encP (a, b), [])
    | _ => none
  | _ => none
theorem pairElem_mk (c : Int × Int) : pairElem (pairV c) = some (encP c, []) := rfl
theorem pairElem_inv {v : Value} {y : DataW Unit × List MemPlace} (h : pairElem v = some y) : ∃ c, v = pairV c ∧ y = (encP c, []) := by
  cases v <;> simp only [pairElem, reduceCtorEq] at h
  rename_i cs
  split at h
  · rename_i a b e
    refine ⟨(a, b), ?_, by simpa using h.symm⟩
    unfold pairV
    rw [← Array.toArray_toList (xs := cs), e]
  · cases h
theorem encP_inj {c d : Int × Int} (h : encP c = encP d) : c = d := by
  unfold encP at h
  simp at h
  exact Prod.ext h.1 h.2

section
variable {P : Program} {t k e : TypeId} {w : World} {b n : Nat} {D : DataW Unit} {g : Int → Option (Int × Int)}
/-- c, ok := m[id] -/
theorem look_pair_ok (h : w.ownsMap P k pairElem b n D) (hk : P.underlying k = some (.int .i64)) (ht : P.underlying t = some (.map k e)) (hz : (zeroValue e).run P w = .ok (pairV (0, 0)) w) (f : FitsG encP D g) {id : Int} (hw : (Lit.int .i64 id).wf = true) :
    (Instr.lookup t (.map (some b)) (.int .i64 id) true).run P w = .ok (.tuple #[pairV ((g id).getD (0, 0)), .bool (g id).isSome]) w := by
  obtain ⟨v, ps, hrun, hv⟩ := h.look_ok (int_keyed hk) ht hz (pairElem_mk (0, 0)) (keyOf_int_mk hk hw)
  obtain ⟨c, rfl, hc⟩ := pairElem_inv hv
  rw [(f.2 id).2] at hrun
  rw [hrun]
  have e2 : (g id).elim (encP (0, 0)) encP = encP c := by rw [← (f.2 id).1]; exact congrArg Prod.fst hc
  cases hg : g id with
  | none => rw [hg] at e2; rw [← encP_inj e2]; rfl
  | some d => rw [hg] at e2; rw [← encP_inj e2]; rfl
/-- c := m[id] -/
theorem look_pair (h : w.ownsMap P k pairElem b n D) (hk : P.underlying k = some (.int .i64)) (ht : P.underlying t = some (.map k e)) (hz : (zeroValue e).run P w = .ok (pairV (0, 0)) w) (f : FitsG encP D g) {id : Int} (hw : (Lit.int .i64 id).wf = true) :
    (Instr.lookup t (.map (some b)) (.int .i64 id) false).run P w = .ok (pairV ((g id).getD (0, 0))) w := by
  obtain ⟨v, ps, hrun, hv⟩ := h.lookup (int_keyed hk) ht hz (pairElem_mk (0, 0)) (keyOf_int_mk hk hw)
  obtain ⟨c, rfl, hc⟩ := pairElem_inv hv
  rw [hrun]
  have e2 : (g id).elim (encP (0, 0)) encP = encP c := by rw [← (f.2 id).1]; exact congrArg Prod.fst hc
  cases hg : g id with
  | none => rw [hg] at e2; rw [← encP_inj e2]; rfl
  | some d => rw [hg] at e2; rw [← encP_inj e2]; rfl
end

section
variable {P : Program} {k : TypeId} {w : World} {b r n : Nat} {D : DataW Unit} {g : Int → Option (Int × Int)} {left : Lit → Bool} {cnt : Nat} {ss : List Int}
  {ops : Array Oper} {rest : List Oper} {o : Oper} {a : Act} {Q : Exit → Act → World → Prop}
/-- A step of a range over such a map; ss: the keys that have come. -/
theorem next_pair (hg : o.guard = none) (it : Operand) (hop : o.op = Op.next it false) (hk : P.underlying k = some (.int .i64)) (hit : a.eval it = .pointer (some ⟨r, 0, none⟩)) (h : w.ranges P k pairElem b r n D left cnt) (f : FitsG encP D g) (hC : CollectedI D left ss)
    (hDone : (∀ x, x ∈ ss ↔ (g x).isSome = true) → wpList P ops Q rest (a.put o.dst (.tuple #[.bool false])) w)
    (hMore : ∀ (x : Int) (c : Int × Int) (w' : World) (left' : Lit → Bool) (cnt' : Nat), g x = some c → x ∉ ss → w'.ranges P k pairElem b r n D left' cnt' → CollectedI D left' (ss ++ [x]) → w'.rangeLeft b r < w.rangeLeft b r → w.grownBy w' (some r) → w'.heap.size = w.heap.size →
      (Instr.entry (.pointer (some ⟨r, 0, none⟩))).run P w' = .ok (.tuple #[.int .i64 x, pairV c]) w' → wpList P ops Q rest (a.put o.dst (.tuple #[.bool true, .int .i64 x, pairV c])) w') :
    wpList P ops Q (o :: rest) a w := by
  refine wpList_next_ranges w hg it hop k (int_keyed hk) pairElem encZ pairV (fun key kl e => by obtain ⟨x, hx, _⟩ := Maps.keyOf_i64 hk e; exact ⟨x, hx⟩) (fun v y e => by obtain ⟨c, hc, _⟩ := pairElem_inv e; exact ⟨c, hc⟩) b r n D left cnt hit h ?_ ?_
  · intro _ hl
    exact hDone (fun x => by rw [hC.2 x, (f.2 x).2, hl]; simp)
  · intro x c kl y w' cnt' hkey hlk hv hat hrg hlt hgr hsz hen
    obtain ⟨x', ex, rfl, _⟩ := Maps.keyOf_i64 hk hkey
    obtain rfl : x = x' := encZ_inj ex
    obtain ⟨c', ec, rfl⟩ := pairElem_inv hv
    have ecc : c = c' := by
      unfold pairV at ec
      simp at ec
      exact Prod.ext ec.1 ec.2
    subst ecc
    have hgx : g x = some c := by
      have h1 := (f.2 x).1
      cases hg : g x with
      | none =>
        have h2 := hat (encP (c.1 + 1, c.2))
        rw [h1, hg] at h2
        have h3 : c.1 + 1 = c.1 := congrArg Prod.fst (encP_inj (show encP (c.1 + 1, c.2) = encP c from h2))
        exfalso
        omega
      | some d =>
        have h2 := hat (encP c)
        rw [h1, hg] at h2
        rw [encP_inj (show encP d = encP c from h2)]
    have hnx : x ∉ ss := fun hx => by have := ((hC.2 x).1 hx).2; rw [hlk] at this; cases this
    exact hMore x c w' _ cnt' hgx hnx hrg (hC.step hlk hat) (by rw [hrg.left_eq, h.left_eq]; exact hlt) hgr hsz hen
end

/-- A sum over all keys, in whatever order. -/
theorem sum_nodup {N : Nat} : ∀ (l : List Int) (v : Int → Int), l.Nodup → (∀ x ∈ l, 0 ≤ x ∧ x < N) → (∀ x, x ∉ l → v x = 0) → (l.map v).sum = sumTo v N
  | [], v, _, _, h => by
    rw [List.map_nil, List.sum_nil, sumTo_congr (g := fun _ => 0) (fun k _ => h k (by simp)), sumTo_zero]
  | a :: l, v, hn, hb, h => by
    rw [List.nodup_cons] at hn
    have ih := sum_nodup l (upd v a 0) hn.2 (fun x hx => hb x (by simp [hx])) (fun x hx => by
      by_cases e : x = a
      · subst e; exact upd_same _ _ _
      · rw [upd_other _ _ e]; exact h x (by simp [e, hx]))
    rw [sumTo_upd, if_pos (hb a (by simp))] at ih
    have e1 : l.map (upd v a 0) = l.map v := List.map_congr_left (fun x hx => upd_other _ _ (fun e => hn.1 (e ▸ hx)))
    rw [e1] at ih
    rw [List.map_cons, List.sum_cons]
    omega
end Go.Proofs.YtepclljoiccieaaGreatDoor.Gd
/-
  A book of goods, plainly: what is on hand, what is free, what each id has reserved.
-/
namespace Go.Proofs.YtepclljoiccieaaGreatDoor.Gd
open Go.RowKit

/-- A book. -/
structure Sb where
  on : Int → Int
  fr : Int → Int
  r : Int → Option (Int × Int)
def amt (v : Option (Int × Int)) (k : Int) : Int := match v with | some c => if c.1 = k then c.2 else 0 | none => 0
/-- How many of item k the id x has reserved. -/
def resv (r : Int → Option (Int × Int)) (k x : Int) : Int := amt (r x) k
def isIt (k : Int) : Bool := decide (0 ≤ k ∧ k < 8)
theorem isIt_iff {k : Int} : isIt k = true ↔ 0 ≤ k ∧ k < 8 := by unfold isIt; simp
theorem resv_upd (r : Int → Option (Int × Int)) (id : Int) (v : Option (Int × Int)) (k : Int) : resv (updO r id v) k = upd (resv r k) id (amt v k) := by
  funext x
  unfold resv
  by_cases e : x = id
  · subst e; rw [updO_same, upd_same]
  · rw [updO_other _ _ e, upd_other _ _ e]

/-- What a book keeps to. -/
structure GoodS (s : Sb) : Prop where
  nn : ∀ k, 0 ≤ k → k < 8 → 0 ≤ s.fr k
  top : ∀ k, 0 ≤ k → k < 8 → s.on k ≤ 1000000000
  at_ : ∀ x c, s.r x = some c → (1 ≤ x ∧ x ≤ 999) ∧ (0 ≤ c.1 ∧ c.1 < 8) ∧ 1 ≤ c.2
  tot : ∀ k, 0 ≤ k → k < 8 → s.on k = s.fr k + sumTo (resv s.r k) 1000
theorem GoodS.pos {s : Sb} (g : GoodS s) (k x : Int) : 0 ≤ resv s.r k x := by
  unfold resv amt
  cases h : s.r x with
  | none => exact Int.le_refl _
  | some c =>
    have := (g.at_ x c h).2.2
    dsimp only
    split <;> omega
theorem GoodS.le {s : Sb} (g : GoodS s) {x : Int} {c : Int × Int} (h : s.r x = some c) : s.fr c.1 + c.2 ≤ s.on c.1 := by
  obtain ⟨h1, h2, h3⟩ := g.at_ x c h
  have h4 := le_sumTo (h := resv s.r c.1) (g.pos c.1) 1000 x (by omega) (by omega)
  have h5 : resv s.r c.1 x = c.2 := by unfold resv; rw [h]; exact if_pos rfl
  have h6 := g.tot c.1 h2.1 h2.2
  omega
theorem GoodS.frle {s : Sb} (g : GoodS s) {k : Int} (h0 : 0 ≤ k) (h1 : k < 8) : s.fr k ≤ s.on k := by
  have := g.tot k h0 h1
  have := sumTo_nonneg (g.pos k) 1000
  omega

/-- A book of what l says. -/
def newS (l : List Int) : Sb := ⟨fun k => clampA (l.getD k.toNat 0), fun k => clampA (l.getD k.toNat 0), fun _ => none⟩
theorem clampA_bd (a : Int) : 0 ≤ clampA a ∧ clampA a ≤ 1000000000 := by unfold clampA; split <;> (try split) <;> omega
theorem clampA_id {a : Int} (h0 : 0 ≤ a) (h1 : a ≤ 1000000000) : clampA a = a := by unfold clampA; rw [if_neg (by omega), if_pos h1]
theorem resv_none (k : Int) : resv (fun _ => none) k = fun _ => 0 := rfl
theorem GoodS.new (l : List Int) : GoodS (newS l) := by
  refine ⟨fun k _ _ => (clampA_bd _).1, fun k _ _ => (clampA_bd _).2, fun x c h => (by cases h), fun k _ _ => ?_⟩
  show clampA _ = clampA _ + sumTo (resv (fun _ => none) k) 1000
  rw [resv_none, sumTo_zero, Int.add_zero]

def resE (s : Sb) (id item qty : Int) : Int :=
  if isI id = true ∧ isIt item = true ∧ 1 ≤ qty ∧ qty ≤ 1000000000 then (if (s.r id).isSome = true then 8 else if qty ≤ s.fr item then 0 else 9) else 1
def resS (s : Sb) (id item qty : Int) : Sb := if resE s id item qty = 0 then ⟨s.on, upd s.fr item (s.fr item - qty), updO s.r id (some (item, qty))⟩ else s
def unE (s : Sb) (id : Int) : Int := if (s.r id).isSome = true then 0 else 6
def comS (s : Sb) (id : Int) : Sb := match s.r id with | some c => ⟨upd s.on c.1 (s.on c.1 - c.2), s.fr, updO s.r id none⟩ | none => s
def relS (s : Sb) (id : Int) : Sb := match s.r id with | some c => ⟨s.on, upd s.fr c.1 (s.fr c.1 + c.2), updO s.r id none⟩ | none => s
theorem resE_ok {s : Sb} {id item qty : Int} (e : resE s id item qty = 0) : (1 ≤ id ∧ id ≤ 999) ∧ (0 ≤ item ∧ item < 8) ∧ (1 ≤ qty ∧ qty ≤ s.fr item) ∧ s.r id = none := by
  unfold resE at e
  split at e
  · rename_i hc
    split at e
    · omega
    · rename_i hs
      split at e
      · exact ⟨isI_iff.1 hc.1, isIt_iff.1 hc.2.1, ⟨hc.2.2.1, by assumption⟩, by simpa using hs⟩
      · omega
  · omega
theorem resS_ok {s : Sb} {id item qty : Int} (e : resE s id item qty = 0) : resS s id item qty = ⟨s.on, upd s.fr item (s.fr item - qty), updO s.r id (some (item, qty))⟩ := if_pos e
theorem resS_no {s : Sb} {id item qty : Int} (e : resE s id item qty ≠ 0) : resS s id item qty = s := if_neg e
theorem comS_some {s : Sb} {id : Int} {c : Int × Int} (h : s.r id = some c) : comS s id = ⟨upd s.on c.1 (s.on c.1 - c.2), s.fr, updO s.r id none⟩ := by unfold comS; rw [h]
theorem comS_none {s : Sb} {id : Int} (h : s.r id = none) : comS s id = s := by unfold comS; rw [h]
theorem relS_some {s : Sb} {id : Int} {c : Int × Int} (h : s.r id = some c) : relS s id = ⟨s.on, upd s.fr c.1 (s.fr c.1 + c.2), updO s.r id none⟩ := by unfold relS; rw [h]
theorem relS_none {s : Sb} {id : Int} (h : s.r id = none) : relS s id = s := by unfold relS; rw [h]
theorem unE_some {s : Sb} {id : Int} {c : Int × Int} (h : s.r id = some c) : unE s id = 0 := by unfold unE; rw [h]; rfl
theorem unE_none {s : Sb} {id : Int} (h : s.r id = none) : unE s id = 6 := by unfold unE; rw [h]; rfl
theorem upd_at (h : Int → Int) (id v x : Int) : upd h id v x = if x = id then v else h x := rfl
theorem GoodS.res {s : Sb} (g : GoodS s) (id item qty : Int) : GoodS (resS s id item qty) := by
  by_cases e : resE s id item qty = 0
  · rw [resS_ok e]
    obtain ⟨h1, h2, h3, h4⟩ := resE_ok e
    refine ⟨fun k k0 k1 => ?_, g.top, fun x c h => ?_, fun k k0 k1 => ?_⟩
    · dsimp only
      rw [upd_at]
      split
      · omega
      · exact g.nn k k0 k1
    · dsimp only at h
      by_cases ex : x = id
      · subst ex
        rw [updO_same] at h
        cases h
        have := g.top item h2.1 h2.2
        exact ⟨h1, h2, h3.1⟩
      · rw [updO_other _ _ ex] at h
        exact g.at_ x c h
    · dsimp only
      have ht := g.tot k k0 k1
      have h0 : resv s.r k id = 0 := by unfold resv; rw [h4]; rfl
      rw [resv_upd, sumTo_upd, if_pos (by omega), h0, upd_at]
      unfold amt
      dsimp only
      by_cases ek : k = item
      · subst ek; rw [if_pos rfl, if_pos rfl]; omega
      · rw [if_neg ek, if_neg (fun e => ek e.symm)]; omega
  · rw [resS_no e]; exact g
theorem GoodS.com {s : Sb} (g : GoodS s) (id : Int) : GoodS (comS s id) := by
  cases h : s.r id with
  | none => rw [comS_none h]; exact g
  | some c =>
    rw [comS_some h]
    obtain ⟨h1, h2, h3⟩ := g.at_ id c h
    refine ⟨g.nn, fun k k0 k1 => ?_, fun x d hx => ?_, fun k k0 k1 => ?_⟩
    · dsimp only
      have := g.top k k0 k1
      rw [upd_at]
      split
      · rename_i e; subst e; omega
      · exact this
    · dsimp only at hx
      by_cases ex : x = id
      · subst ex; rw [updO_same] at hx; cases hx
      · rw [updO_other _ _ ex] at hx; exact g.at_ x d hx
    · dsimp only
      have ht := g.tot k k0 k1
      have hr : resv s.r k id = if c.1 = k then c.2 else 0 := by unfold resv; rw [h]; rfl
      rw [resv_upd, sumTo_upd, if_pos (by omega), hr, upd_at]
      unfold amt
      dsimp only
      by_cases ek : k = c.1
      · subst ek; rw [if_pos rfl, if_pos rfl]; omega
      · rw [if_neg ek, if_neg (fun e => ek e.symm)]; omega
theorem GoodS.rel {s : Sb} (g : GoodS s) (id : Int) : GoodS (relS s id) := by
  cases h : s.r id with
  | none => rw [relS_none h]; exact g
  | some c =>
    rw [relS_some h]
    obtain ⟨h1, h2, h3⟩ := g.at_ id c h
    refine ⟨fun k k0 k1 => ?_, g.top, fun x d hx => ?_, fun k k0 k1 => ?_⟩
    · dsimp only
      have := g.nn k k0 k1
      rw [upd_at]
      split
      · rename_i e; subst e; omega
      · exact this
    · dsimp only at hx
      by_cases ex : x = id
      · subst ex; rw [updO_same] at hx; cases hx
      · rw [updO_other _ _ ex] at hx; exact g.at_ x d hx
    · dsimp only
      have ht := g.tot k k0 k1
      have hr : resv s.r k id = if c.1 = k then c.2 else 0 := by unfold resv; rw [h]; rfl
      rw [resv_upd, sumTo_upd, if_pos (by omega), hr, upd_at]
      unfold amt
      dsimp only
      by_cases ek : k = c.1
      · subst ek; rw [if_pos rfl, if_pos rfl]; omega
      · rw [if_neg ek, if_neg (fun e => ek e.symm)]; omega
end Go.Proofs.YtepclljoiccieaaGreatDoor.Gd
/-
  A book of money, plainly: what each client has, what is allowed for each id, the till, what each id has paid.
-/
namespace Go.Proofs.YtepclljoiccieaaGreatDoor.Gd.Pu
open Go.RowKit

/-- A book. -/
structure Pb where
  m : Int → Int
  a : Int → Option (Int × Int)
  till : Int
  p : Int → Int
def prc (v : Option (Int × Int)) : Int := match v with | some c => c.2 | none => 0
/-- What is allowed for x. -/
def alw (a : Int → Option (Int × Int)) (x : Int) : Int := prc (a x)
/-- All that is allowed; all that is allowed of the client k. -/
def allA (s : Pb) : Int := sumTo (alw s.a) 1000
def alwK (s : Pb) (k : Int) : Int := sumTo (resv s.a k) 1000
theorem alw_upd (a : Int → Option (Int × Int)) (id : Int) (v : Option (Int × Int)) : alw (updO a id v) = upd (alw a) id (prc v) := by
  funext x
  unfold alw
  by_cases e : x = id
  · subst e; rw [updO_same, upd_same]
  · rw [updO_other _ _ e, upd_other _ _ e]
/-- m 0 + .. + m 7 -/
def wealth (s : Pb) : Int := sumTo s.m 8 + s.till

/-- What a book keeps to. -/
structure GoodP (s : Pb) : Prop where
  tnn : 0 ≤ s.till
  at_ : ∀ x c, s.a x = some c → (1 ≤ x ∧ x ≤ 999) ∧ (0 ≤ c.1 ∧ c.1 < 8) ∧ 1 ≤ c.2 ∧ s.p x = 0
  pat : ∀ x, s.p x ≠ 0 → 1 ≤ x ∧ x ≤ 999
  pnn : ∀ x, 0 ≤ s.p x
  top : ∀ k, 0 ≤ k → k < 8 → s.m k ≤ 1000000000
  low : ∀ k, 0 ≤ k → k < 8 → alwK s k ≤ s.m k
  over : s.till + allA s ≤ 1000000000
  paid : sumTo s.p 1000 = s.till
theorem GoodP.pos {s : Pb} (g : GoodP s) (x : Int) : 0 ≤ alw s.a x := by
  unfold alw prc
  cases h : s.a x with
  | none => exact Int.le_refl _
  | some c => have := (g.at_ x c h).2.2.1; dsimp only; omega
theorem GoodP.posK {s : Pb} (g : GoodP s) (k x : Int) : 0 ≤ resv s.a k x := by
  unfold resv amt
  cases h : s.a x with
  | none => exact Int.le_refl _
  | some c =>
    have := (g.at_ x c h).2.2.1
    dsimp only
    split <;> omega
theorem GoodP.alwK_nn {s : Pb} (g : GoodP s) (k : Int) : 0 ≤ alwK s k := sumTo_nonneg (g.posK k) 1000
theorem GoodP.allA_nn {s : Pb} (g : GoodP s) : 0 ≤ allA s := sumTo_nonneg g.pos 1000
theorem GoodP.mnn {s : Pb} (g : GoodP s) {k : Int} (h0 : 0 ≤ k) (h1 : k < 8) : 0 ≤ s.m k := by
  have := g.low k h0 h1
  have := g.alwK_nn k
  omega
/-- What is allowed for one id is no more than what its client has, nor than what the till may still have. -/
theorem GoodP.le {s : Pb} (g : GoodP s) {x : Int} {c : Int × Int} (h : s.a x = some c) : c.2 ≤ alwK s c.1 ∧ c.2 ≤ allA s := by
  obtain ⟨h1, h2, h3, _⟩ := g.at_ x c h
  have h4 := le_sumTo (h := resv s.a c.1) (g.posK c.1) 1000 x (by omega) (by omega)
  have h5 : resv s.a c.1 x = c.2 := by unfold resv; rw [h]; exact if_pos rfl
  have h6 := le_sumTo (h := alw s.a) g.pos 1000 x (by omega) (by omega)
  have h7 : alw s.a x = c.2 := by unfold alw; rw [h]; rfl
  unfold alwK allA
  omega

/-- A book of what l says. -/
def newP (l : List Int) : Pb := ⟨fun k => clampA (l.getD k.toNat 0), fun _ => none, 0, fun _ => 0⟩
theorem alw_none : alw (fun _ => none) = fun _ => 0 := rfl
theorem GoodP.new (l : List Int) : GoodP (newP l) := by
  refine ⟨Int.le_refl _, fun x c h => (by cases h), fun x h => absurd rfl h, fun _ => Int.le_refl _, fun k _ _ => (clampA_bd _).2, fun k _ _ => ?_, ?_, ?_⟩
  · show sumTo (resv (fun _ => none) k) 1000 ≤ clampA _
    rw [resv_none, sumTo_zero]
    exact (clampA_bd _).1
  · show 0 + sumTo (alw (fun _ => none)) 1000 ≤ 1000000000
    rw [alw_none, sumTo_zero]
    omega
  · exact sumTo_zero

def alwE (s : Pb) (id k q : Int) : Int :=
  if isI id = true ∧ isIt k = true ∧ 1 ≤ q ∧ q ≤ 1000000000 then (if (s.a id).isSome = true ∨ s.p id ≠ 0 then 8 else if q ≤ s.m k - alwK s k then (if s.till + allA s + q ≤ 1000000000 then 0 else 4) else 9) else 1
def alwS (s : Pb) (id k q : Int) : Pb := if alwE s id k q = 0 then ⟨s.m, updO s.a id (some (k, q)), s.till, s.p⟩ else s
def capE (s : Pb) (id : Int) : Int := if (s.a id).isSome = true then 0 else 6
def capS (s : Pb) (id : Int) : Pb := match s.a id with | some c => ⟨upd s.m c.1 (s.m c.1 - c.2), updO s.a id none, s.till + c.2, upd s.p id c.2⟩ | none => s
def voidS (s : Pb) (id : Int) : Pb := match s.a id with | some _ => ⟨s.m, updO s.a id none, s.till, s.p⟩ | none => s
theorem alwE_ok {s : Pb} {id k q : Int} (e : alwE s id k q = 0) : (1 ≤ id ∧ id ≤ 999) ∧ (0 ≤ k ∧ k < 8) ∧ 1 ≤ q ∧ s.a id = none ∧ s.p id = 0 ∧ q ≤ s.m k - alwK s k ∧ s.till + allA s + q ≤ 1000000000 := by
  unfold alwE at e
  split at e
  · rename_i hc
    split at e
    · omega
    · rename_i hs
      have h1 : s.a id = none := by
        cases h : s.a id with
        | none => rfl
        | some c => exact absurd (.inl (by rw [h]; rfl)) hs
      have h2 : s.p id = 0 := by
        rcases Decidable.em (s.p id = 0) with h | h
        · exact h
        · exact absurd (.inr h) hs
      split at e
      · rename_i h3
        split at e
        · rename_i h4
          exact ⟨isI_iff.1 hc.1, isIt_iff.1 hc.2.1, hc.2.2.1, h1, h2, h3, h4⟩
        · omega
      · omega
  · omega
theorem alwS_ok {s : Pb} {id k q : Int} (e : alwE s id k q = 0) : alwS s id k q = ⟨s.m, updO s.a id (some (k, q)), s.till, s.p⟩ := if_pos e
theorem alwS_no {s : Pb} {id k q : Int} (e : alwE s id k q ≠ 0) : alwS s id k q = s := if_neg e
theorem capS_some {s : Pb} {id : Int} {c : Int × Int} (h : s.a id = some c) : capS s id = ⟨upd s.m c.1 (s.m c.1 - c.2), updO s.a id none, s.till + c.2, upd s.p id c.2⟩ := by unfold capS; rw [h]
theorem capS_none {s : Pb} {id : Int} (h : s.a id = none) : capS s id = s := by unfold capS; rw [h]
theorem voidS_some {s : Pb} {id : Int} {c : Int × Int} (h : s.a id = some c) : voidS s id = ⟨s.m, updO s.a id none, s.till, s.p⟩ := by unfold voidS; rw [h]
theorem voidS_none {s : Pb} {id : Int} (h : s.a id = none) : voidS s id = s := by unfold voidS; rw [h]
theorem capE_some {s : Pb} {id : Int} {c : Int × Int} (h : s.a id = some c) : capE s id = 0 := by unfold capE; rw [h]; rfl
theorem capE_none {s : Pb} {id : Int} (h : s.a id = none) : capE s id = 6 := by unfold capE; rw [h]; rfl

/-- The sums behind a step at id. -/
theorem alwK_upd (s : Pb) {id : Int} (h0 : 0 ≤ id) (h1 : id < 1000) (v : Option (Int × Int)) (m' : Int → Int) (t' : Int) (p' : Int → Int) (k : Int) : alwK ⟨m', updO s.a id v, t', p'⟩ k = alwK s k + (amt v k - resv s.a k id) := by
  unfold alwK
  dsimp only
  rw [resv_upd, sumTo_upd, if_pos ⟨h0, by omega⟩]
theorem allA_upd (s : Pb) {id : Int} (h0 : 0 ≤ id) (h1 : id < 1000) (v : Option (Int × Int)) (m' : Int → Int) (t' : Int) (p' : Int → Int) : allA ⟨m', updO s.a id v, t', p'⟩ = allA s + (prc v - alw s.a id) := by
  unfold allA
  dsimp only
  rw [alw_upd, sumTo_upd, if_pos ⟨h0, by omega⟩]
theorem GoodP.allow {s : Pb} (g : GoodP s) (id k q : Int) : GoodP (alwS s id k q) := by
  by_cases e : alwE s id k q = 0
  · rw [alwS_ok e]
    obtain ⟨h1, h2, h3, h4, h5, h6, h7⟩ := alwE_ok e
    have z1 : ∀ j, resv s.a j id = 0 := fun j => by unfold resv; rw [h4]; rfl
    have z2 : alw s.a id = 0 := by unfold alw; rw [h4]; rfl
    refine ⟨g.tnn, fun x c h => ?_, g.pat, g.pnn, g.top, fun j j0 j1 => ?_, ?_, g.paid⟩
    · dsimp only at h ⊢
      by_cases ex : x = id
      · subst ex; rw [updO_same] at h; cases h; exact ⟨h1, h2, h3, h5⟩
      · rw [updO_other _ _ ex] at h; exact g.at_ x c h
    · rw [alwK_upd s (by omega) (by omega), z1]
      have := g.low j j0 j1
      dsimp only [amt]
      split
      · rename_i ej; subst ej; omega
      · omega
    · rw [allA_upd s (by omega) (by omega), z2]
      dsimp only [prc]
      omega
  · rw [alwS_no e]; exact g
theorem GoodP.cap {s : Pb} (g : GoodP s) (id : Int) : GoodP (capS s id) := by
  cases h : s.a id with
  | none => rw [capS_none h]; exact g
  | some c =>
    rw [capS_some h]
    obtain ⟨h1, h2, h3, h4⟩ := g.at_ id c h
    have hl := g.le h
    have z1 : ∀ j, resv s.a j id = if c.1 = j then c.2 else 0 := fun j => by unfold resv; rw [h]; rfl
    have z2 : alw s.a id = c.2 := by unfold alw; rw [h]; rfl
    refine ⟨?_, fun x d hd => ?_, fun x hx => ?_, fun x => ?_, fun j j0 j1 => ?_, fun j j0 j1 => ?_, ?_, ?_⟩
    · have := g.tnn; dsimp only; omega
    · dsimp only at hd ⊢
      by_cases ex : x = id
      · subst ex; rw [updO_same] at hd; cases hd
      · rw [updO_other _ _ ex] at hd; rw [upd_other _ _ ex]; exact g.at_ x d hd
    · dsimp only at hx
      by_cases ex : x = id
      · subst ex; exact h1
      · rw [upd_other _ _ ex] at hx; exact g.pat x hx
    · dsimp only
      rw [upd_at]
      split
      · omega
      · exact g.pnn x
    · dsimp only
      have := g.top j j0 j1
      rw [upd_at]
      split
      · rename_i ej; subst ej; omega
      · exact this
    · rw [alwK_upd s (by omega) (by omega), z1]
      have := g.low j j0 j1
      dsimp only [amt]
      rw [upd_at]
      by_cases ej : j = c.1
      · subst ej; rw [if_pos rfl, if_pos rfl]; omega
      · rw [if_neg (fun e => ej e.symm), if_neg ej]; omega
    · rw [allA_upd s (by omega) (by omega), z2]
      have := g.over
      dsimp only [prc]
      omega
    · dsimp only
      rw [sumTo_upd, if_pos (by omega), h4, g.paid]
      omega
theorem GoodP.void {s : Pb} (g : GoodP s) (id : Int) : GoodP (voidS s id) := by
  cases h : s.a id with
  | none => rw [voidS_none h]; exact g
  | some c =>
    rw [voidS_some h]
    obtain ⟨h1, h2, h3, h4⟩ := g.at_ id c h
    have z1 : ∀ j, resv s.a j id = if c.1 = j then c.2 else 0 := fun j => by unfold resv; rw [h]; rfl
    have z2 : alw s.a id = c.2 := by unfold alw; rw [h]; rfl
    refine ⟨g.tnn, fun x d hd => ?_, g.pat, g.pnn, g.top, fun j j0 j1 => ?_, ?_, g.paid⟩
    · dsimp only at hd ⊢
      by_cases ex : x = id
      · subst ex; rw [updO_same] at hd; cases hd
      · rw [updO_other _ _ ex] at hd; exact g.at_ x d hd
    · rw [alwK_upd s (by omega) (by omega), z1]
      have := g.low j j0 j1
      dsimp only [amt]
      split <;> omega
    · rw [allA_upd s (by omega) (by omega), z2]
      have := g.over
      dsimp only [prc]
      omega
/-- All money together stays. -/
theorem cap_wealth {s : Pb} (g : GoodP s) (id : Int) : wealth (capS s id) = wealth s := by
  cases h : s.a id with
  | none => rw [capS_none h]
  | some c =>
    rw [capS_some h]
    have h2 := (g.at_ id c h).2.1
    unfold wealth
    dsimp only
    rw [sumTo_upd, if_pos (by omega)]
    omega
theorem allow_wealth (s : Pb) (id k q : Int) : wealth (alwS s id k q) = wealth s := by unfold alwS; split <;> rfl
theorem void_wealth (s : Pb) (id : Int) : wealth (voidS s id) = wealth s := by unfold voidS; split <;> rfl
end Go.Proofs.YtepclljoiccieaaGreatDoor.Gd.Pu
/-
  A book of money, plainly, as the program keeps it: what each client had at first, what is allowed for each id, what each id has paid; all else is summed up of that (PrsM's book).
-/
namespace Go.Proofs.YtepclljoiccieaaGreatDoor.Gd.Pu
open Go.RowKit

structure Qb where
  f : Int → Int
  a : Int → Option (Int × Int)
  d : Int → Option (Int × Int)
def moneyK (s : Qb) (k : Int) : Int := s.f k - sumTo (resv s.d k) 1000
def tillQ (s : Qb) : Int := sumTo (alw s.d) 1000
def toP (s : Qb) : Pb := ⟨moneyK s, s.a, tillQ s, alw s.d⟩
/-- What may stand in a map of deals. -/
def GoodD (r : Int → Option (Int × Int)) : Prop := ∀ x c, r x = some c → (1 ≤ x ∧ x ≤ 999) ∧ (0 ≤ c.1 ∧ c.1 < 8) ∧ 1 ≤ c.2
structure GoodQ (s : Qb) : Prop where
  gp : GoodP (toP s)
  da : GoodD s.a
  dd : GoodD s.d
  ft : ∀ k, 0 ≤ k → k < 8 → s.f k ≤ 1000000000
theorem GoodD.pos {r : Int → Option (Int × Int)} (g : GoodD r) (x : Int) : 0 ≤ alw r x := by
  unfold alw prc
  cases h : r x with
  | none => exact Int.le_refl _
  | some c => have := (g x c h).2.2; dsimp only; omega
theorem GoodD.posK {r : Int → Option (Int × Int)} (g : GoodD r) (k x : Int) : 0 ≤ resv r k x := by
  unfold resv amt
  cases h : r x with
  | none => exact Int.le_refl _
  | some c =>
    have := (g x c h).2.2
    dsimp only
    split <;> omega
theorem GoodD.le {r : Int → Option (Int × Int)} (g : GoodD r) (k x : Int) : resv r k x ≤ alw r x := by
  unfold resv amt alw prc
  cases h : r x with
  | none => exact Int.le_refl _
  | some c =>
    have := (g x c h).2.2
    dsimp only
    split <;> omega
theorem sumTo_le {h g : Int → Int} (hg : ∀ x, h x ≤ g x) : ∀ n, sumTo h n ≤ sumTo g n
  | 0 => Int.le_refl _
  | n + 1 => by have := sumTo_le hg n; have := hg n; rw [sumTo, sumTo]; omega
/-- Of some of the keys the sum is no more than of all. -/
theorem sum_some {l : List Int} {v : Int → Int} (hn : l.Nodup) (hb : ∀ x ∈ l, 0 ≤ x ∧ x < 1000) (hp : ∀ x, 0 ≤ v x) : (l.map v).sum ≤ sumTo v 1000 := by
  have e : l.map v = l.map (fun x => if x ∈ l then v x else 0) := List.map_congr_left (fun x hx => (if_pos hx).symm)
  rw [e, sum_nodup (N := 1000) l _ hn (fun x hx => by have := hb x hx; omega) (fun x hx => if_neg hx)]
  refine sumTo_le (fun x => ?_) 1000
  split
  · exact Int.le_refl _
  · exact hp x
theorem sum_nonneg {l : List Int} {v : Int → Int} (hp : ∀ x, 0 ≤ v x) : 0 ≤ (l.map v).sum := by
  induction l with
  | nil => exact Int.le_refl _
  | cons a l ih => rw [List.map_cons, List.sum_cons]; have := hp a; omega
theorem GoodD.nope {r : Int → Option (Int × Int)} (g : GoodD r) {x : Int} (h : alw r x = 0) : r x = none := by
  cases e : r x with
  | none => rfl
  | some c =>
    exfalso
    have := (g x c e).2.2
    unfold alw prc at h
    rw [e] at h
    dsimp only at h
    omega
theorem GoodD.isSome {r : Int → Option (Int × Int)} (g : GoodD r) (x : Int) : (r x).isSome = decide (alw r x ≠ 0) := by
  cases e : r x with
  | none => unfold alw; rw [e]; rfl
  | some c =>
    have := (g x c e).2.2
    unfold alw prc
    rw [e]
    dsimp only [Option.isSome]
    symm
    simp
    omega
theorem GoodD.upd {r : Int → Option (Int × Int)} (g : GoodD r) {id : Int} {c : Int × Int} (h : (1 ≤ id ∧ id ≤ 999) ∧ (0 ≤ c.1 ∧ c.1 < 8) ∧ 1 ≤ c.2) : GoodD (updO r id (some c)) := fun x d hd => by
  by_cases ex : x = id
  · subst ex; rw [updO_same] at hd; cases hd; exact h
  · rw [updO_other _ _ ex] at hd; exact g x d hd
theorem GoodD.del {r : Int → Option (Int × Int)} (g : GoodD r) (id : Int) : GoodD (updO r id none) := fun x d hd => by
  by_cases ex : x = id
  · subst ex; rw [updO_same] at hd; cases hd
  · rw [updO_other _ _ ex] at hd; exact g x d hd
/-- Of no client nothing is allowed. -/
theorem GoodD.out {r : Int → Option (Int × Int)} (g : GoodD r) {k : Int} (hk : ¬ (0 ≤ k ∧ k < 8)) : sumTo (resv r k) 1000 = 0 := by
  rw [← sumTo_zero (n := 1000)]
  refine sumTo_congr (fun x _ => ?_)
  unfold resv amt
  cases h : r x with
  | none => rfl
  | some c =>
    have := (g x c h).2.1
    dsimp only
    exact if_neg (fun (e : c.1 = k) => hk (by omega))

theorem pb_ext {m m' p p' : Int → Int} {a a' : Int → Option (Int × Int)} {t t' : Int} (h1 : m = m') (h2 : a = a') (h3 : t = t') (h4 : p = p') : Pb.mk m a t p = Pb.mk m' a' t' p' := by subst h1 h2 h3 h4; rfl
def newQ (l : List Int) : Qb := ⟨fun k => clampA (l.getD k.toNat 0), fun _ => none, fun _ => none⟩
def alwQ (s : Qb) (id k q : Int) : Qb := if alwE (toP s) id k q = 0 then ⟨s.f, updO s.a id (some (k, q)), s.d⟩ else s
def capQ (s : Qb) (id : Int) : Qb := match s.a id with | some c => ⟨s.f, updO s.a id none, updO s.d id (some c)⟩ | none => s
def voidQ (s : Qb) (id : Int) : Qb := match s.a id with | some _ => ⟨s.f, updO s.a id none, s.d⟩ | none => s
theorem alwQ_ok {s : Qb} {id k q : Int} (e : alwE (toP s) id k q = 0) : alwQ s id k q = ⟨s.f, updO s.a id (some (k, q)), s.d⟩ := if_pos e
theorem alwQ_no {s : Qb} {id k q : Int} (e : alwE (toP s) id k q ≠ 0) : alwQ s id k q = s := if_neg e
theorem capQ_some {s : Qb} {id : Int} {c : Int × Int} (h : s.a id = some c) : capQ s id = ⟨s.f, updO s.a id none, updO s.d id (some c)⟩ := by unfold capQ; rw [h]
theorem capQ_none {s : Qb} {id : Int} (h : s.a id = none) : capQ s id = s := by unfold capQ; rw [h]
theorem voidQ_some {s : Qb} {id : Int} {c : Int × Int} (h : s.a id = some c) : voidQ s id = ⟨s.f, updO s.a id none, s.d⟩ := by unfold voidQ; rw [h]
theorem voidQ_none {s : Qb} {id : Int} (h : s.a id = none) : voidQ s id = s := by unfold voidQ; rw [h]
theorem toP_new (l : List Int) : toP (newQ l) = newP l := by
  refine pb_ext ?_ rfl ?_ rfl
  · funext k
    show clampA _ - sumTo (resv (fun _ => none) k) 1000 = _
    rw [resv_none, sumTo_zero, Int.sub_zero]
  · show sumTo (alw (fun _ => none)) 1000 = 0
    rw [alw_none, sumTo_zero]
theorem toP_alw (s : Qb) (id k q : Int) : toP (alwQ s id k q) = alwS (toP s) id k q := by
  by_cases e : alwE (toP s) id k q = 0
  · rw [alwQ_ok e, alwS_ok e]; rfl
  · rw [alwQ_no e, alwS_no e]
theorem toP_void (s : Qb) (id : Int) : toP (voidQ s id) = voidS (toP s) id := by
  cases h : s.a id with
  | none => rw [voidQ_none h, voidS_none (s := toP s) h]
  | some c => rw [voidQ_some h, voidS_some (s := toP s) h]; rfl
theorem GoodQ.free {s : Qb} (g : GoodQ s) {id : Int} {c : Int × Int} (h : s.a id = some c) : s.d id = none := g.dd.nope (g.gp.at_ id c h).2.2.2
theorem toP_cap {s : Qb} (g : GoodQ s) (id : Int) : toP (capQ s id) = capS (toP s) id := by
  cases h : s.a id with
  | none => rw [capQ_none h, capS_none (s := toP s) h]
  | some c =>
    rw [capQ_some h, capS_some (s := toP s) h]
    have h1 := (g.da id c h).1
    have hd := g.free h
    refine pb_ext ?_ rfl ?_ ?_
    · funext k
      show s.f k - sumTo (resv (updO s.d id (some c)) k) 1000 = Go.Proofs.YtepclljoiccieaaGreatDoor.Gd.upd (moneyK s) c.1 (moneyK s c.1 - c.2) k
      have z : resv s.d k id = 0 := by unfold resv; rw [hd]; rfl
      rw [resv_upd, sumTo_upd, if_pos (by omega), z, upd_at]
      unfold moneyK amt
      dsimp only
      by_cases ek : k = c.1
      · subst ek; rw [if_pos rfl, if_pos rfl]; omega
      · rw [if_neg ek, if_neg (fun e => ek e.symm)]; omega
    · show sumTo (alw (updO s.d id (some c))) 1000 = sumTo (alw s.d) 1000 + c.2
      have z : alw s.d id = 0 := by unfold alw; rw [hd]; rfl
      rw [alw_upd, sumTo_upd, if_pos (by omega), z]
      unfold prc
      dsimp only
      omega
    · show alw (updO s.d id (some c)) = _
      rw [alw_upd]
      rfl
theorem GoodQ.new (l : List Int) : GoodQ (newQ l) := ⟨by rw [toP_new]; exact GoodP.new l, fun x c h => (by cases h), fun x c h => (by cases h), fun k _ _ => (clampA_bd _).2⟩
theorem GoodQ.allow {s : Qb} (g : GoodQ s) (id k q : Int) : GoodQ (alwQ s id k q) := by
  refine ⟨by rw [toP_alw]; exact g.gp.allow id k q, ?_, ?_, ?_⟩
  · by_cases e : alwE (toP s) id k q = 0
    · rw [alwQ_ok e]
      obtain ⟨h1, h2, h3, _⟩ := alwE_ok e
      exact g.da.upd ⟨h1, h2, h3⟩
    · rw [alwQ_no e]; exact g.da
  · unfold alwQ; split <;> exact g.dd
  · unfold alwQ; split <;> exact g.ft
theorem GoodQ.cap {s : Qb} (g : GoodQ s) (id : Int) : GoodQ (capQ s id) := by
  refine ⟨by rw [toP_cap g]; exact g.gp.cap id, ?_, ?_, ?_⟩
  · cases h : s.a id with
    | none => rw [capQ_none h]; exact g.da
    | some c => rw [capQ_some h]; exact g.da.del id
  · cases h : s.a id with
    | none => rw [capQ_none h]; exact g.dd
    | some c => rw [capQ_some h]; exact g.dd.upd (g.da id c h)
  · unfold capQ; split <;> exact g.ft
theorem GoodQ.void {s : Qb} (g : GoodQ s) (id : Int) : GoodQ (voidQ s id) := by
  refine ⟨by rw [toP_void]; exact g.gp.void id, ?_, ?_, ?_⟩
  · cases h : s.a id with
    | none => rw [voidQ_none h]; exact g.da
    | some c => rw [voidQ_some h]; exact g.da.del id
  · unfold voidQ; split <;> exact g.dd
  · unfold voidQ; split <;> exact g.ft
theorem GoodQ.sumA {s : Qb} (g : GoodQ s) : 0 ≤ sumTo (alw s.a) 1000 ∧ 0 ≤ sumTo (alw s.d) 1000 ∧ sumTo (alw s.d) 1000 + sumTo (alw s.a) 1000 ≤ 1000000000 := by
  have h1 := g.gp.over
  have h2 := g.gp.allA_nn
  have h3 := g.gp.tnn
  exact ⟨h2, h3, h1⟩
theorem GoodQ.money {s : Qb} (g : GoodQ s) {k : Int} (h0 : 0 ≤ k) (h1 : k < 8) : (0 ≤ sumTo (resv s.a k) 1000 ∧ sumTo (resv s.a k) 1000 ≤ moneyK s k) ∧ moneyK s k ≤ 1000000000 ∧ (0 ≤ sumTo (resv s.d k) 1000 ∧ sumTo (resv s.d k) 1000 ≤ s.f k) ∧ s.f k ≤ 1000000000 := by
  have a1 := g.gp.low k h0 h1
  have a2 := g.gp.alwK_nn k
  have a3 := g.gp.top k h0 h1
  have a4 := g.ft k h0 h1
  have a5 := sumTo_nonneg (g.dd.posK k) 1000
  have a6 : moneyK s k = s.f k - sumTo (resv s.d k) 1000 := rfl
  have b1 : sumTo (resv s.a k) 1000 ≤ moneyK s k := a1
  have b2 : 0 ≤ sumTo (resv s.a k) 1000 := a2
  have b3 : moneyK s k ≤ 1000000000 := a3
  omega
end Go.Proofs.YtepclljoiccieaaGreatDoor.Gd.Pu
/-
  Small functions of the reference's chapters 7 to 11: clamp, Id, above, place.
-/
namespace Go.Proofs.YtepclljoiccieaaGreatDoor.Gd
open Go.ChangeShapes Go.WideShapes Go.ChangeAt Go.RowKit

theorem rclamp_any (room : Int) (w : World) : Calls Tryz.prog 122 #[.int .i64 room] w fun e w' => e = .returned (.int .i64 (clampA room)) ∧ w = w' := by
  by_cases h0 : 0 < room
  · by_cases h1 : room ≤ 1000000000
    · have HC : Hid (room = clampA room) := by show _ = _; unfold clampA; rw [if_neg (by omega), if_pos h1]
      go_enter Tryz.func122, Tryz.ntmps122
      go_wp2
      go_ret
      exact ⟨ret_int HC.out, rfl⟩
    · have HC : Hid (1000000000 = clampA room) := by show _ = _; unfold clampA; rw [if_neg (by omega), if_neg h1]
      go_enter Tryz.func122, Tryz.ntmps122
      go_wp2
      go_ret
      exact ⟨ret_int HC.out, rfl⟩
  · have HC : Hid (0 = clampA room) := by show _ = _; unfold clampA; split <;> (try split) <;> omega
    go_enter Tryz.func122, Tryz.ntmps122
    go_wp2
    go_ret
    exact ⟨ret_int HC.out, rfl⟩

theorem rid_any (id : Int) (w : World) : Calls Tryz.prog 45 #[.int .i64 id] w fun e w' => e = .returned (.bool (isI id)) ∧ w = w' := by
  by_cases h0 : 1 ≤ id
  · by_cases h1 : id ≤ 999
    · have hm : true = isI id := (isI_iff.2 ⟨h0, h1⟩).symm
      rw [← hm]
      clear hm
      go_enter Tryz.func45, Tryz.ntmps45
      go_wp2
      go_ret
      exact ⟨rfl, rfl⟩
    · have hm : false = isI id := by unfold isI; simp; omega
      rw [← hm]
      clear hm
      go_enter Tryz.func45, Tryz.ntmps45
      go_wp2
      go_ret
      exact ⟨rfl, rfl⟩
  · have hm : false = isI id := by unfold isI; simp; omega
    rw [← hm]
    clear hm
    go_enter Tryz.func45, Tryz.ntmps45
    go_wp2
    go_ret
    exact ⟨rfl, rfl⟩
def aboveB (n : Int) : Bool := decide (1 ≤ n ∧ n ≤ 1000000000)
theorem rabove_any (n : Int) (w : World) : Calls Tryz.prog 115 #[.int .i64 n] w fun e w' => e = .returned (.bool (aboveB n)) ∧ w = w' := by
  by_cases h0 : 1 ≤ n
  · by_cases h1 : n ≤ 1000000000
    · have hm : true = aboveB n := by unfold aboveB; simp; omega
      rw [← hm]
      clear hm
      go_enter Tryz.func115, Tryz.ntmps115
      go_wp2
      go_ret
      exact ⟨rfl, rfl⟩
    · have hm : false = aboveB n := by unfold aboveB; simp; omega
      rw [← hm]
      clear hm
      go_enter Tryz.func115, Tryz.ntmps115
      go_wp2
      go_ret
      exact ⟨rfl, rfl⟩
  · have hm : false = aboveB n := by unfold aboveB; simp; omega
    rw [← hm]
    clear hm
    go_enter Tryz.func115, Tryz.ntmps115
    go_wp2
    go_ret
    exact ⟨rfl, rfl⟩
theorem rplace_any (n : Int) (w : World) : Calls Tryz.prog 92 #[.int .i64 n] w fun e w' => e = .returned (.bool (isIt n)) ∧ w = w' := by
  by_cases h0 : 0 ≤ n
  · by_cases h1 : n < 8
    · have hm : true = isIt n := (isIt_iff.2 ⟨h0, h1⟩).symm
      rw [← hm]
      clear hm
      go_enter Tryz.func92, Tryz.ntmps92
      go_wp2
      go_ret
      exact ⟨rfl, rfl⟩
    · have hm : false = isIt n := by unfold isIt; simp; omega
      rw [← hm]
      clear hm
      go_enter Tryz.func92, Tryz.ntmps92
      go_wp2
      go_ret
      exact ⟨rfl, rfl⟩
  · have hm : false = isIt n := by unfold isIt; simp; omega
    rw [← hm]
    clear hm
    go_enter Tryz.func92, Tryz.ntmps92
    go_wp2
    go_ret
    exact ⟨rfl, rfl⟩
end Go.Proofs.YtepclljoiccieaaGreatDoor.Gd
/-
  What is seen of a book of money behind a step, plainly.
-/
namespace Go.Proofs.YtepclljoiccieaaGreatDoor.Gd.Pu
open Go.RowKit

theorem new_view (l : List Int) : (∀ k, (newP l).m k = clampA (l.getD k.toNat 0)) ∧ (∀ k, alwK (newP l) k = 0) ∧ allA (newP l) = 0 ∧ (newP l).till = 0 ∧ (∀ x, (newP l).p x = 0) ∧ (∀ x, (newP l).a x = none) := by
  refine ⟨fun _ => rfl, fun k => ?_, ?_, rfl, fun _ => rfl, fun _ => rfl⟩
  · show sumTo (resv (fun _ => none) k) 1000 = 0
    rw [resv_none, sumTo_zero]
  · show sumTo (alw (fun _ => none)) 1000 = 0
    rw [alw_none, sumTo_zero]
theorem alw_view {s : Pb} {id k q : Int} (e : alwE s id k q = 0) : (alwS s id k q).m = s.m ∧ (alwS s id k q).till = s.till ∧ (alwS s id k q).p = s.p ∧ (alwS s id k q).a = updO s.a id (some (k, q)) ∧ (∀ j, alwK (alwS s id k q) j = alwK s j + (if k = j then q else 0)) ∧ allA (alwS s id k q) = allA s + q := by
  obtain ⟨h1, h2, h3, h4, h5, h6, h7⟩ := alwE_ok e
  rw [alwS_ok e]
  refine ⟨rfl, rfl, rfl, rfl, fun j => ?_, ?_⟩
  · rw [alwK_upd s (by omega) (by omega)]
    have z1 : resv s.a j id = 0 := by unfold resv; rw [h4]; rfl
    rw [z1]
    show alwK s j + ((if k = j then q else 0) - 0) = _
    omega
  · rw [allA_upd s (by omega) (by omega)]
    have z2 : alw s.a id = 0 := by unfold alw; rw [h4]; rfl
    rw [z2]
    show allA s + (q - 0) = _
    omega
theorem cap_view {s : Pb} (g : GoodP s) {id k q : Int} (h : s.a id = some (k, q)) : (capS s id).m = upd s.m k (s.m k - q) ∧ (capS s id).till = s.till + q ∧ (capS s id).p = upd s.p id q ∧ (capS s id).a = updO s.a id none ∧ (∀ j, alwK (capS s id) j = alwK s j - (if k = j then q else 0)) ∧ allA (capS s id) = allA s - q := by
  obtain ⟨h1, -⟩ := g.at_ id _ h
  rw [capS_some h]
  refine ⟨rfl, rfl, rfl, rfl, fun j => ?_, ?_⟩
  · rw [alwK_upd s (by omega) (by omega)]
    have z1 : resv s.a j id = if k = j then q else 0 := by unfold resv; rw [h]; rfl
    rw [z1]
    show alwK s j + (0 - _) = _
    omega
  · rw [allA_upd s (by omega) (by omega)]
    have z2 : alw s.a id = q := by unfold alw; rw [h]; rfl
    rw [z2]
    show allA s + (0 - q) = _
    omega
theorem void_view {s : Pb} (g : GoodP s) {id k q : Int} (h : s.a id = some (k, q)) : (voidS s id).m = s.m ∧ (voidS s id).till = s.till ∧ (voidS s id).p = s.p ∧ (voidS s id).a = updO s.a id none ∧ (∀ j, alwK (voidS s id) j = alwK s j - (if k = j then q else 0)) ∧ allA (voidS s id) = allA s - q := by
  obtain ⟨h1, -⟩ := g.at_ id _ h
  rw [voidS_some h]
  refine ⟨rfl, rfl, rfl, rfl, fun j => ?_, ?_⟩
  · rw [alwK_upd s (by omega) (by omega)]
    have z1 : resv s.a j id = if k = j then q else 0 := by unfold resv; rw [h]; rfl
    rw [z1]
    show alwK s j + (0 - _) = _
    omega
  · rw [allA_upd s (by omega) (by omega)]
    have z2 : alw s.a id = q := by unfold alw; rw [h]; rfl
    rw [z2]
    show allA s + (0 - q) = _
    omega
theorem alwE_of {s : Pb} {id k q : Int} (h : (1 ≤ id ∧ id ≤ 999) ∧ (0 ≤ k ∧ k < 8) ∧ 1 ≤ q ∧ q ≤ 1000000000) : alwE s id k q = if (s.a id).isSome = true ∨ s.p id ≠ 0 then 8 else if q ≤ s.m k - alwK s k then (if s.till + allA s + q ≤ 1000000000 then 0 else 4) else 9 := by
  unfold alwE
  rw [if_pos ⟨isI_iff.2 h.1, isIt_iff.2 h.2.1, h.2.2⟩]
end Go.Proofs.YtepclljoiccieaaGreatDoor.Gd.Pu
