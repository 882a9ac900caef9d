/-
  Maps keyed by int, whatever their elements: what one holds, as a function of the key; sums over its keys.
-/
import Derived.Test.YtkaniplkobnpjaaHldM
import Derived.Maps.OwnSet
import Derived.Maps.RangeWalk
import Derived.Lib.SlKeysI
namespace Go.Proofs.Ytkaniplkobnpjaa
open Go Go.RowKit Go.Maps

/-- The map reads as g, its elements by enc. -/
def FitsG {α : Type} (enc : α → DataW Unit) (D : DataW Unit) (g : Int → Option α) : Prop :=
  IsMap D ∧ ∀ x : Int, (∀ z, D.atKey (.int .i64 x) z = (g x).elim z enc) ∧ Maps.has D (.int .i64 x) = (g x).isSome
def updO {α : Type} (g : Int → Option α) (id : Int) (v : Option α) : Int → Option α := fun x => if x = id then v else g x
theorem updO_same {α : Type} (g : Int → Option α) (id : Int) (v : Option α) : updO g id v id = v := by simp [updO]
theorem updO_other {α : Type} (g : Int → Option α) {id x : Int} (v : Option α) (hx : x ≠ id) : updO g id v x = g x := by simp [updO, hx]
theorem updO_id {α : Type} {g : Int → Option α} {id : Int} {v : Option α} (e : g id = v) : updO g id v = g := by
  funext x
  by_cases hx : x = id
  · subst hx; rw [updO_same, e]
  · rw [updO_other g v hx]
theorem FitsG.new {α : Type} (enc : α → DataW Unit) : FitsG enc (.map []) (fun _ => none) := ⟨isMap_empty, fun _ => ⟨fun _ => rfl, rfl⟩⟩
theorem FitsG.put {α : Type} {enc : α → DataW Unit} {D : DataW Unit} {g : Int → Option α} (f : FitsG enc D g) (id : Int) (c : α) : FitsG enc (D.put (.int .i64 id) (enc c)) (updO g id (some c)) := by
  refine ⟨f.1.put _ _, fun x => ?_⟩
  by_cases e : x = id
  · subst e
    have hk : WideAt.IsKeyLit (Lit.int .i64 x) := trivial
    rw [updO_same, has_put_same f.1 hk]
    exact ⟨fun z => atKey_put_same f.1 hk _ z, rfl⟩
  · rw [updO_other g _ e, has_put_other (by simpa using e)]
    exact ⟨fun z => by rw [atKey_put_other (by simpa using e)]; exact (f.2 x).1 z, (f.2 x).2⟩
theorem FitsG.del {α : Type} {enc : α → DataW Unit} {D : DataW Unit} {g : Int → Option α} (f : FitsG enc D g) (id : Int) : FitsG enc (D.del (.int .i64 id)) (updO g id none) := by
  refine ⟨f.1.del _, fun x => ?_⟩
  by_cases e : x = id
  · subst e
    rw [updO_same, has_del_same]
    exact ⟨fun z => atKey_del_same z, rfl⟩
  · rw [updO_other g _ e, has_del_other (by simpa using e)]
    exact ⟨fun z => by rw [atKey_del_other (by simpa using e)]; exact (f.2 x).1 z, (f.2 x).2⟩

/-- An element of two numbers. -/
def encP (c : Int × Int) : DataW Unit := .agg [.lit (.int .i64 c.1), .lit (.int .i64 c.2)]
def pairV (c : Int × Int) : Value := .agg #[.int .i64 c.1, .int .i64 c.2]
def pairElem (v : Value) : Option (DataW Unit × List MemPlace) :=
  match v with
  | .agg cs =>
    match cs.toList with
    | [.int .i64 a, .int .i64 b] => some (encP (a, b), [])
    | _ => none
  | _ => none
theorem pairElem_mk (c : Int × Int) : pairElem (pairV c) = some (encP c, []) := rfl
theorem pairElem_inv {v : Value} {y : DataW Unit × List MemPlace} (h : pairElem v = some y) : ∃ c, v = pairV c ∧ y = (encP c, []) := by
  cases v <;> simp only [pairElem, reduceCtorEq] at h
  rename_i cs
  split at h
  · rename_i a b e
    refine ⟨(a, b), ?_, by simpa using h.symm⟩
    unfold pairV
    rw [← Array.toArray_toList (xs := cs), e]
  · cases h
theorem encP_inj {c d : Int × Int} (h : encP c = encP d) : c = d := by
  unfold encP at h
  simp at h
  exact Prod.ext h.1 h.2

section
variable {P : Program} {t k e : TypeId} {w : World} {b n : Nat} {D : DataW Unit} {g : Int → Option (Int × Int)}
/-- c, ok := m[id] -/
theorem look_pair_ok (h : w.ownsMap P k pairElem b n D) (hk : P.underlying k = some (.int .i64)) (ht : P.underlying t = some (.map k e)) (hz : (zeroValue e).run P w = .ok (pairV (0, 0)) w) (f : FitsG encP D g) {id : Int} (hw : (Lit.int .i64 id).wf = true) :
    (Instr.lookup t (.map (some b)) (.int .i64 id) true).run P w = .ok (.tuple #[pairV ((g id).getD (0, 0)), .bool (g id).isSome]) w := by
  obtain ⟨v, ps, hrun, hv⟩ := h.look_ok (int_keyed hk) ht hz (pairElem_mk (0, 0)) (keyOf_int_mk hk hw)
  obtain ⟨c, rfl, hc⟩ := pairElem_inv hv
  rw [(f.2 id).2] at hrun
  rw [hrun]
  have e2 : (g id).elim (encP (0, 0)) encP = encP c := by rw [← (f.2 id).1]; exact congrArg Prod.fst hc
  cases hg : g id with
  | none => rw [hg] at e2; rw [← encP_inj e2]; rfl
  | some d => rw [hg] at e2; rw [← encP_inj e2]; rfl
/-- c := m[id] -/
theorem look_pair (h : w.ownsMap P k pairElem b n D) (hk : P.underlying k = some (.int .i64)) (ht : P.underlying t = some (.map k e)) (hz : (zeroValue e).run P w = .ok (pairV (0, 0)) w) (f : FitsG encP D g) {id : Int} (hw : (Lit.int .i64 id).wf = true) :
    (Instr.lookup t (.map (some b)) (.int .i64 id) false).run P w = .ok (pairV ((g id).getD (0, 0))) w := by
  obtain ⟨v, ps, hrun, hv⟩ := h.lookup (int_keyed hk) ht hz (pairElem_mk (0, 0)) (keyOf_int_mk hk hw)
  obtain ⟨c, rfl, hc⟩ := pairElem_inv hv
  rw [hrun]
  have e2 : (g id).elim (encP (0, 0)) encP = encP c := by rw [← (f.2 id).1]; exact congrArg Prod.fst hc
  cases hg : g id with
  | none => rw [hg] at e2; rw [← encP_inj e2]; rfl
  | some d => rw [hg] at e2; rw [← encP_inj e2]; rfl
end

section
variable {P : Program} {k : TypeId} {w : World} {b r n : Nat} {D : DataW Unit} {g : Int → Option (Int × Int)} {left : Lit → Bool} {cnt : Nat} {ss : List Int}
  {ops : Array Oper} {rest : List Oper} {o : Oper} {a : Act} {Q : Exit → Act → World → Prop}
/-- A step of a range over such a map; ss: the keys that have come. -/
theorem next_pair (hg : o.guard = none) (it : Operand) (hop : o.op = Op.next it false) (hk : P.underlying k = some (.int .i64)) (hit : a.eval it = .pointer (some ⟨r, 0, none⟩)) (h : w.ranges P k pairElem b r n D left cnt) (f : FitsG encP D g) (hC : CollectedI D left ss)
    (hDone : (∀ x, x ∈ ss ↔ (g x).isSome = true) → wpList P ops Q rest (a.put o.dst (.tuple #[.bool false])) w)
    (hMore : ∀ (x : Int) (c : Int × Int) (w' : World) (left' : Lit → Bool) (cnt' : Nat), g x = some c → x ∉ ss → w'.ranges P k pairElem b r n D left' cnt' → CollectedI D left' (ss ++ [x]) → w'.rangeLeft b r < w.rangeLeft b r → w.grownBy w' (some r) → w'.heap.size = w.heap.size →
      (Instr.entry (.pointer (some ⟨r, 0, none⟩))).run P w' = .ok (.tuple #[.int .i64 x, pairV c]) w' → wpList P ops Q rest (a.put o.dst (.tuple #[.bool true, .int .i64 x, pairV c])) w') :
    wpList P ops Q (o :: rest) a w := by
  refine wpList_next_ranges w hg it hop k (int_keyed hk) pairElem encZ pairV (fun key kl e => by obtain ⟨x, hx, _⟩ := Maps.keyOf_i64 hk e; exact ⟨x, hx⟩) (fun v y e => by obtain ⟨c, hc, _⟩ := pairElem_inv e; exact ⟨c, hc⟩) b r n D left cnt hit h ?_ ?_
  · intro _ hl
    exact hDone (fun x => by rw [hC.2 x, (f.2 x).2, hl]; simp)
  · intro x c kl y w' cnt' hkey hlk hv hat hrg hlt hgr hsz hen
    obtain ⟨x', ex, rfl, _⟩ := Maps.keyOf_i64 hk hkey
    obtain rfl : x = x' := encZ_inj ex
    obtain ⟨c', ec, rfl⟩ := pairElem_inv hv
    have ecc : c = c' := by
      unfold pairV at ec
      simp at ec
      exact Prod.ext ec.1 ec.2
    subst ecc
    have hgx : g x = some c := by
      have h1 := (f.2 x).1
      cases hg : g x with
      | none =>
        have h2 := hat (encP (c.1 + 1, c.2))
        rw [h1, hg] at h2
        have h3 : c.1 + 1 = c.1 := congrArg Prod.fst (encP_inj (show encP (c.1 + 1, c.2) = encP c from h2))
        exfalso
        omega
      | some d =>
        have h2 := hat (encP c)
        rw [h1, hg] at h2
        rw [encP_inj (show encP d = encP c from h2)]
    have hnx : x ∉ ss := fun hx => by have := ((hC.2 x).1 hx).2; rw [hlk] at this; cases this
    exact hMore x c w' _ cnt' hgx hnx hrg (hC.step hlk hat) (by rw [hrg.left_eq, h.left_eq]; exact hlt) hgr hsz hen
end

/-- A sum over all keys, in whatever order. -/
theorem sum_nodup {N : Nat} : ∀ (l : List Int) (v : Int → Int), l.Nodup → (∀ x ∈ l, 0 ≤ x ∧ x < N) → (∀ x, x ∉ l → v x = 0) → (l.map v).sum = sumTo v N
  | [], v, _, _, h => by
    rw [List.map_nil, List.sum_nil, sumTo_congr (g := fun _ => 0) (fun k _ => h k (by simp)), sumTo_zero]
  | a :: l, v, hn, hb, h => by
    rw [List.nodup_cons] at hn
    have ih := sum_nodup l (upd v a 0) hn.2 (fun x hx => hb x (by simp [hx])) (fun x hx => by
      by_cases e : x = a
      · subst e; exact upd_same _ _ _
      · rw [upd_other _ _ e]; exact h x (by simp [e, hx]))
    rw [sumTo_upd, if_pos (hb a (by simp))] at ih
    have e1 : l.map (upd v a 0) = l.map v := List.map_congr_left (fun x hx => upd_other _ _ (fun e => hn.1 (e ▸ hx)))
    rw [e1] at ih
    rw [List.map_cons, List.sum_cons]
    omega
end Go.Proofs.Ytkaniplkobnpjaa
