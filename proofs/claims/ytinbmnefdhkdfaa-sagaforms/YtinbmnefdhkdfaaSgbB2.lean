/-
  Rows of bools that the call owns; facts that are changed in their box.
-/
import Derived.Test.YtinbmnefdhkdfaaSgaT
import Derived.Test.YtinbmnefdhkdfaaOrdR
import Derived.Laws.Tables
namespace Go.Proofs.Ytinbmnefdhkdfaa
open Go.ChangeShapes Go.WideShapes Go.ChangeAt Go.RowKit

theorem Try.infoBool : (Try.prog.info? 4).map (fun i => (i.zero, i.size, i.bytes)) = some (some (.bool false), 1, 1) := by kernel_rfl
theorem row_bls {W : World} {base : Nat} {a : Option Addr} {c : Nat} {l : List Bool} (h : W.ownsRow base 4 1 (.slice a l.length c) l.length (l.map Value.bool)) : Bls W a l := by
  have hc := fun g hg => h.cells (g := g) hg
  rcases h.2 with ⟨_, h1⟩ | ⟨g, cap, cur, e, hb, hcur, _⟩
  · exact .inl (List.eq_nil_of_length_eq_zero h1)
  · cases e
    refine .inr ⟨g, 0, rfl, fun i x hx => ?_⟩
    have := hc g rfl i (.bool x) (by rw [List.getElem?_map, hx]; rfl)
    rwa [st_add'] at this
theorem bls_news {w : World} {ad : Addr} {m : List Bool} (h : Bls w (some ad) m) : ∀ j u, (m.map Value.bool)[j]? = some u → w.cell? (ad.add j) = some u := by
  intro j u hu
  rcases h with h | ⟨b, off, ha, hc⟩
  · subst h; simp at hu
  · cases ha
    rw [st_add']
    rw [List.getElem?_map] at hu
    cases hm : m[j]? with
    | none => rw [hm] at hu; simp at hu
    | some x =>
      rw [hm] at hu
      simp at hu
      subst hu
      exact hc j x hm
theorem append_bls {w : World} {ops : Array Oper} {rest : List Oper} {o : Oper} {a : Act} {Q : Exit → Act → World → Prop} (hgd : o.guard = none) (s x : Operand)
    (ho : o.op = .call { callee := .builtin .append, args := #[s, x], argTypes := #[25, 25] })
    (base : Nat) (v : Value) (L : List Bool) (hs : a.eval s = v) (hown : w.ownsRow base 4 1 v L.length (L.map Value.bool)) (ao : Option Addr) (m : List Bool) (c : Nat) (hx : a.eval x = .slice ao m.length c) (hn : ao = none → m = [] ∧ c = 0)
    (hm : Bls w ao m) (hb : L.length + m.length ≤ 1000000) (hbase : base ≤ w.heap.size)
    (h : ∀ a' c' w', w'.ownsRow base 4 1 (.slice a' (L.length + m.length) c') (L ++ m).length ((L ++ m).map Value.bool) → w.grownBy w' v.ownBlock → wpList Try.prog ops Q rest (a.put o.dst (.slice a' (L.length + m.length) c')) w') : wpList Try.prog ops Q (o :: rest) a w := by
  obtain ⟨i0, hi, hz0, hz1, hz2⟩ := info_parts Try.infoBool
  cases ao with
  | none =>
    obtain ⟨rfl, rfl⟩ := hn rfl
    obtain ⟨av, cv, rfl, _⟩ := row_slice hown
    refine wpList_append_own_none hgd s x 25 ho base 4 i0 1 Try.underlying25 hi _ _ _ hs hown (by simpa using hx) (h av cv w ?_ ⟨rfl, rfl, rfl, Nat.le_refl _, fun _ _ _ => rfl⟩)
    simpa using hown
  | some ad =>
    refine wpList_append_own_at _ hgd s x 25 ho base 4 i0 _ 1 1 Try.underlying25 hi hz0 hz1 hz2 rfl (by decide) v L.length (L.map Value.bool) hs hown ad m.length c (m.map Value.bool) hx (by simp) (bls_news hm) (fun u hu => by obtain ⟨y, _, rfl⟩ := List.mem_map.1 hu; rfl) (by unfold maxLen; omega) (by omega) hbase ?_
    intro v' w' h1 h2 _ _
    obtain ⟨a', c', rfl, _⟩ := row_slice h1
    refine h a' c' w' ?_ h2
    rw [List.map_append, List.length_append]
    exact h1
theorem brow_fresh (W : World) (base : Nat) (hb : base ≤ W.heap.size) : (W.alloc (.cells #[] 4)).ownsRow base 4 1 (.slice (some ⟨W.heap.size, 0, none⟩) 0 0) ([] : List Bool).length (([] : List Bool).map Value.bool) :=
  ⟨rfl, .inr ⟨W.heap.size, 0, #[], rfl, hb, by show (W.heap.push _)[W.heap.size]? = _; simp, Nat.le_refl _, by decide, rfl, rfl⟩⟩
theorem bls_one (w : World) (x : Bool) : Bls (w.alloc (.cells #[.bool x] 4)) (some ⟨w.heap.size, 0, none⟩) [x] :=
  .inr ⟨w.heap.size, 0, rfl, fun i c hi => by
    have e : (w.alloc (.cells #[.bool x] 4)).heap[w.heap.size]? = some (.cells #[.bool x] 4 (0, 0)) := World.alloc_heap_new w _
    rw [cell_of e, Nat.zero_add]
    match i, hi with
    | 0, hi => simp at hi; subst hi; rfl
    | i + 1, hi => simp at hi⟩
/-- One of what is known turned, in its box. -/
theorem Rd.st1 {w : World} {p q : Nat} {t : TypeId} {o : Od} {a : Option Addr} {c : Nat} {f : Fa} {da : Option Addr} {dc : Nat} {ua : Option Addr} {uc : Nat} {u : World} (h : Rd w p q t o a c f da dc ua uc u) (ha : Sts w a o.steps) (f' : Fa) (hi : FaIn w f' da dc ua uc) (hpq : p ≠ q) (hq : w.heap.size ≤ q) (i : Nat) (x : Bool)
    (hc : (#[.slice da f.dn.length dc, .slice ua f.un.length uc, .bool f.asked, .bool f.yes, .bool f.turned, .bool f.k0, .bool f.k1, .bool f.ship, .bool f.d0, .bool f.d1, .bool f.acc] : Array Value).setIfInBounds i (.bool x) = #[.slice da f'.dn.length dc, .slice ua f'.un.length uc, .bool f'.asked, .bool f'.yes, .bool f'.turned, .bool f'.k0, .bool f'.k1, .bool f'.ship, .bool f'.d0, .bool f'.d1, .bool f'.acc]) : Rd w p q t o a c f' da dc ua uc (u.setCell ⟨q, i, none⟩ (.bool x)) := by
  have hB := h.bel.setCell (p := ⟨q, i, none⟩) hq (.bool x)
  refine ⟨(Below.heap_setCell _ _ _ _ hpq).trans h.ob, ?_, ha.below hB, hi.below hB, hB, h.hl⟩
  rw [heap_setCell_same _ _ _ _ _ _ h.fb, hc]
theorem Rd.frz {w : World} {p q : Nat} {t : TypeId} {o : Od} {a : Option Addr} {c : Nat} {f : Fa} {da : Option Addr} {dc : Nat} {ua : Option Addr} {uc : Nat} {u : World} (h : Rd w p q t o a c f da dc ua uc u) (i : Nat) : u.frozen? ⟨q, i, none⟩ = false := frozen_of_row _ _ _ _ _ h.fb
theorem Rd.far {w : World} {p q : Nat} {t : TypeId} {o : Od} {a : Option Addr} {c : Nat} {f : Fa} {da : Option Addr} {dc : Nat} {ua : Option Addr} {uc : Nat} {u : World} (h : Rd w p q t o a c f da dc ua uc u) : q < u.heap.size := (Array.getElem?_eq_some_iff.1 h.fb).1
end Go.Proofs.Ytinbmnefdhkdfaa
