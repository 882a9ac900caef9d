/-
  Contracts: package saga's May, State, Over.
-/
import Derived.Test.YtinbmnefdhkdfaaSgaS
import Derived.Test.YtinbmnefdhkdfaaOrdC3
namespace Go.Proofs.Ytinbmnefdhkdfaa
open Go.ChangeShapes Go.WideShapes Go.ChangeAt Go.RowKit

/-- An order lies boxed at p, what is known of it at q. -/
structure Rd (w : World) (p q : Nat) (t : TypeId) (o : Od) (a : Option Addr) (c : Nat) (f : Fa) (da : Option Addr) (dc : Nat) (ua : Option Addr) (uc : Nat) (u : World) : Prop where
  ob : u.heap[p]? = some (.cells #[.int .i64 o.id, .int .i64 o.item, .int .i64 o.qty, .int .i64 o.client, .int .i64 o.price, .slice a o.steps.length c] 24 (0, 0))
  fb : u.heap[q]? = some (.cells #[.slice da f.dn.length dc, .slice ua f.un.length uc, .bool f.asked, .bool f.yes, .bool f.turned, .bool f.k0, .bool f.k1, .bool f.ship, .bool f.d0, .bool f.d1, .bool f.acc] t (0, 0))
  st : Sts u a o.steps
  fi : FaIn u f da dc ua uc
  bel : Below w.heap.size w u
  hl : o.steps.length ≤ 9223372036854775807
theorem Rd.on {w : World} {p q : Nat} {t : TypeId} {o : Od} {a : Option Addr} {c : Nat} {f : Fa} {da : Option Addr} {dc : Nat} {ua : Option Addr} {uc : Nat} {u v : World} (h : Rd w p q t o a c f da dc ua uc u) (hb : Below u.heap.size u v) : Rd w p q t o a c f da dc ua uc v :=
  ⟨(hb.block _ (Array.getElem?_eq_some_iff.1 h.ob).1).trans h.ob, (hb.block _ (Array.getElem?_eq_some_iff.1 h.fb).1).trans h.fb, h.st.below hb, h.fi.below hb, bel_on' h.bel hb, h.hl⟩
theorem six_cells {u : World} {n : Nat} {t : TypeId} {v0 v1 v2 v3 v4 v5 : Value} (h : u.heap[n]? = some (.cells #[v0, v1, v2, v3, v4, v5] t (0, 0))) : u.cell? ⟨n, 0, none⟩ = some v0 ∧ u.cell? ⟨n, 1, none⟩ = some v1 ∧ u.cell? ⟨n, 2, none⟩ = some v2 ∧ u.cell? ⟨n, 3, none⟩ = some v3 ∧ u.cell? ⟨n, 4, none⟩ = some v4 ∧ u.cell? ⟨n, 5, none⟩ = some v5 := by
  refine ⟨?_, ?_, ?_, ?_, ?_, ?_⟩ <;> (rw [cell_of h]; rfl)
theorem ten_cells {u : World} {n : Nat} {t : TypeId} {v0 v1 v2 v3 v4 v5 v6 v7 v8 v9 v10 : Value} (h : u.heap[n]? = some (.cells #[v0, v1, v2, v3, v4, v5, v6, v7, v8, v9, v10] t (0, 0))) : u.cell? ⟨n, 0, none⟩ = some v0 ∧ u.cell? ⟨n, 1, none⟩ = some v1 ∧ u.cell? ⟨n, 2, none⟩ = some v2 ∧ u.cell? ⟨n, 3, none⟩ = some v3 ∧ u.cell? ⟨n, 4, none⟩ = some v4 ∧ u.cell? ⟨n, 5, none⟩ = some v5 ∧ u.cell? ⟨n, 6, none⟩ = some v6 ∧ u.cell? ⟨n, 7, none⟩ = some v7 ∧ u.cell? ⟨n, 8, none⟩ = some v8 ∧ u.cell? ⟨n, 9, none⟩ = some v9 ∧ u.cell? ⟨n, 10, none⟩ = some v10 := by
  refine ⟨?_, ?_, ?_, ?_, ?_, ?_, ?_, ?_, ?_, ?_, ?_⟩ <;> (rw [cell_of h]; rfl)
theorem Rd.cells {w : World} {p q : Nat} {t : TypeId} {o : Od} {a : Option Addr} {c : Nat} {f : Fa} {da : Option Addr} {dc : Nat} {ua : Option Addr} {uc : Nat} {u : World} (h : Rd w p q t o a c f da dc ua uc u) :
    (u.cell? ⟨p, 0, none⟩ = some (.int .i64 o.id) ∧ u.cell? ⟨p, 1, none⟩ = some (.int .i64 o.item) ∧ u.cell? ⟨p, 2, none⟩ = some (.int .i64 o.qty) ∧ u.cell? ⟨p, 3, none⟩ = some (.int .i64 o.client) ∧ u.cell? ⟨p, 4, none⟩ = some (.int .i64 o.price) ∧ u.cell? ⟨p, 5, none⟩ = some (.slice a o.steps.length c)) ∧
    u.cell? ⟨q, 0, none⟩ = some (.slice da f.dn.length dc) ∧ u.cell? ⟨q, 1, none⟩ = some (.slice ua f.un.length uc) ∧ u.cell? ⟨q, 2, none⟩ = some (.bool f.asked) ∧ u.cell? ⟨q, 3, none⟩ = some (.bool f.yes) ∧ u.cell? ⟨q, 4, none⟩ = some (.bool f.turned) ∧ u.cell? ⟨q, 5, none⟩ = some (.bool f.k0) ∧ u.cell? ⟨q, 6, none⟩ = some (.bool f.k1) ∧ u.cell? ⟨q, 7, none⟩ = some (.bool f.ship) ∧ u.cell? ⟨q, 8, none⟩ = some (.bool f.d0) ∧ u.cell? ⟨q, 9, none⟩ = some (.bool f.d1) ∧ u.cell? ⟨q, 10, none⟩ = some (.bool f.acc) :=
  ⟨six_cells h.ob, ten_cells h.fb⟩
theorem Rd.new {w : World} {o : Od} {a : Option Addr} {c : Nat} {f : Fa} {da : Option Addr} {dc : Nat} {ua : Option Addr} {uc : Nat} (t : TypeId) (ha : Sts w a o.steps) (hl : o.steps.length ≤ 9223372036854775807) (hi : FaIn w f da dc ua uc) :
    Rd w w.heap.size (w.heap.size + 1) t o a c f da dc ua uc ((w.alloc (.cells #[.int .i64 o.id, .int .i64 o.item, .int .i64 o.qty, .int .i64 o.client, .int .i64 o.price, .slice a o.steps.length c] 24)).alloc (.cells #[.slice da f.dn.length dc, .slice ua f.un.length uc, .bool f.asked, .bool f.yes, .bool f.turned, .bool f.k0, .bool f.k1, .bool f.ship, .bool f.d0, .bool f.d1, .bool f.acc] t)) := by
  have b1 : Below w.heap.size w (w.alloc (.cells #[.int .i64 o.id, .int .i64 o.item, .int .i64 o.qty, .int .i64 o.client, .int .i64 o.price, .slice a o.steps.length c] 24)) := (Below.refl _ _).alloc (Nat.le_refl _) _
  have b2 := b1.alloc b1.size (.cells #[.slice da f.dn.length dc, .slice ua f.un.length uc, .bool f.asked, .bool f.yes, .bool f.turned, .bool f.k0, .bool f.k1, .bool f.ship, .bool f.d0, .bool f.d1, .bool f.acc] t)
  refine ⟨(Below.heap_alloc _ _ _ (by simp)).trans (World.alloc_heap_new w _), ?_, ha.below b2, hi.below b2, b2, hl⟩
  have := World.alloc_heap_new (w.alloc (.cells #[.int .i64 o.id, .int .i64 o.item, .int .i64 o.qty, .int .i64 o.client, .int .i64 o.price, .slice a o.steps.length c] 24)) (.cells #[.slice da f.dn.length dc, .slice ua f.un.length uc, .bool f.asked, .bool f.yes, .bool f.turned, .bool f.k0, .bool f.k1, .bool f.ship, .bool f.d0, .bool f.d1, .bool f.acc] t)
  rwa [World.size_alloc] at this


set_option maxRecDepth 100000 in
set_option maxHeartbeats 4000000 in
theorem smay_any (o : Od) (a : Option Addr) (c : Nat) (f : Fa) (da : Option Addr) (dc : Nat) (ua : Option Addr) (uc : Nat) (w : World) (ha : Sts w a o.steps) (hl : o.steps.length ≤ 9223372036854775807) (hi : FaIn w f da dc ua uc) :
    Calls Try.prog 12 #[.agg #[.int .i64 o.id, .int .i64 o.item, .int .i64 o.qty, .int .i64 o.client, .int .i64 o.price, .slice a o.steps.length c], .agg #[.slice da f.dn.length dc, .slice ua f.un.length uc, .bool f.asked, .bool f.yes, .bool f.turned, .bool f.k0, .bool f.k1, .bool f.ship, .bool f.d0, .bool f.d1, .bool f.acc]] w fun e w' => e = .returned (.bool (mayF o f)) ∧ Below w.heap.size w w' := by
  have HR := Rd.new (c := c) 28 ha hl hi
  have C1 : ∀ u, Rd w w.heap.size (w.heap.size + 1) 28 o a c f da dc ua uc u → Calls Try.prog 22 #[.agg #[.int .i64 o.id, .int .i64 o.item, .int .i64 o.qty, .int .i64 o.client, .int .i64 o.price, .slice a o.steps.length c]] u fun e w' => e = .returned (.bool (mayO o)) ∧ Below u.heap.size u w' := fun u h => omay_any o a c u h.st h.hl
  have C2 : ∀ u, Rd w w.heap.size (w.heap.size + 1) 28 o a c f da dc ua uc u → Calls Try.prog 23 #[.agg #[.slice da f.dn.length dc, .slice ua f.un.length uc, .bool f.asked, .bool f.yes, .bool f.turned, .bool f.k0, .bool f.k1, .bool f.ship, .bool f.d0, .bool f.d1, .bool f.acc]] u fun e w' => e = .returned (.bool (decF f)) ∧ Below u.heap.size u w' := fun u h => decM_any f da dc ua uc u
  have C3 : ∀ u, Rd w w.heap.size (w.heap.size + 1) 28 o a c f da dc ua uc u → Calls Try.prog 24 #[.agg #[.slice da f.dn.length dc, .slice ua f.un.length uc, .bool f.asked, .bool f.yes, .bool f.turned, .bool f.k0, .bool f.k1, .bool f.ship, .bool f.d0, .bool f.d1, .bool f.acc]] u fun e w' => e = .returned (.bool (donF f)) ∧ Below u.heap.size u w' := fun u h => donM_any f da dc ua uc u h.fi
  have C4 : ∀ u, Rd w w.heap.size (w.heap.size + 1) 28 o a c f da dc ua uc u → Calls Try.prog 25 #[.agg #[.slice da f.dn.length dc, .slice ua f.un.length uc, .bool f.asked, .bool f.yes, .bool f.turned, .bool f.k0, .bool f.k1, .bool f.ship, .bool f.d0, .bool f.d1, .bool f.acc]] u fun e w' => e = .returned (.bool (undF f)) ∧ Below u.heap.size u w' := fun u h => undM_any f da dc ua uc u h.fi
  obtain ⟨⟨d0, d1, d2, d3, d4, d5⟩, e0, e1, e2, e3, e4, e5, e6, e7, e8, e9, e10⟩ := HR.cells
  have HML : Hid (f.dn.length ≤ 9223372036854775807 ∧ f.un.length ≤ 9223372036854775807) := ⟨by have := hi.dl; have := hi.dm; omega, by have := hi.ul; have := hi.um; omega⟩
  clear ha hl hi
  cases p1 : mayO o
  · have HF : Hid (false = mayF o f) := by show _ = _; unfold mayF; rw [p1]; rfl
    rw [p1] at C1
    go_enter Try.func12, Try.ntmps12
    go_wp2_with (first
      | (go_at_call 22; with_reducible refine ((C1 _ HR)).mono ?_; rintro e u ⟨rfl, hb⟩; replace HR := HR.on hb; clear hb d0 d1 d2 d3 d4 d5 e0 e1 e2 e3 e4 e5 e6 e7 e8 e9 e10; obtain ⟨⟨d0, d1, d2, d3, d4, d5⟩, e0, e1, e2, e3, e4, e5, e6, e7, e8, e9, e10⟩ := HR.cells)
      | (go_at_call 23; with_reducible refine ((C2 _ HR)).mono ?_; rintro e u ⟨rfl, hb⟩; replace HR := HR.on hb; clear hb d0 d1 d2 d3 d4 d5 e0 e1 e2 e3 e4 e5 e6 e7 e8 e9 e10; obtain ⟨⟨d0, d1, d2, d3, d4, d5⟩, e0, e1, e2, e3, e4, e5, e6, e7, e8, e9, e10⟩ := HR.cells)
      | (go_at_call 24; with_reducible refine ((C3 _ HR)).mono ?_; rintro e u ⟨rfl, hb⟩; replace HR := HR.on hb; clear hb d0 d1 d2 d3 d4 d5 e0 e1 e2 e3 e4 e5 e6 e7 e8 e9 e10; obtain ⟨⟨d0, d1, d2, d3, d4, d5⟩, e0, e1, e2, e3, e4, e5, e6, e7, e8, e9, e10⟩ := HR.cells)
      | (go_at_call 25; with_reducible refine ((C4 _ HR)).mono ?_; rintro e u ⟨rfl, hb⟩; replace HR := HR.on hb; clear hb d0 d1 d2 d3 d4 d5 e0 e1 e2 e3 e4 e5 e6 e7 e8 e9 e10; obtain ⟨⟨d0, d1, d2, d3, d4, d5⟩, e0, e1, e2, e3, e4, e5, e6, e7, e8, e9, e10⟩ := HR.cells))
    go_ret
    exact ⟨ret_bool HF.out, HR.bel⟩
  rw [p1] at C1
  by_cases h1 : (f.dn.length : Int) = (o.steps.length : Int)
  rotate_left
  · have HF : Hid (false = mayF o f) := by show _ = _; unfold mayF; rw [p1, decide_eq_false (show ¬ f.dn.length = o.steps.length by omega)]; rfl
    go_enter Try.func12, Try.ntmps12
    go_wp2_with (first
      | (go_at_call 22; with_reducible refine ((C1 _ HR)).mono ?_; rintro e u ⟨rfl, hb⟩; replace HR := HR.on hb; clear hb d0 d1 d2 d3 d4 d5 e0 e1 e2 e3 e4 e5 e6 e7 e8 e9 e10; obtain ⟨⟨d0, d1, d2, d3, d4, d5⟩, e0, e1, e2, e3, e4, e5, e6, e7, e8, e9, e10⟩ := HR.cells)
      | (go_at_call 23; with_reducible refine ((C2 _ HR)).mono ?_; rintro e u ⟨rfl, hb⟩; replace HR := HR.on hb; clear hb d0 d1 d2 d3 d4 d5 e0 e1 e2 e3 e4 e5 e6 e7 e8 e9 e10; obtain ⟨⟨d0, d1, d2, d3, d4, d5⟩, e0, e1, e2, e3, e4, e5, e6, e7, e8, e9, e10⟩ := HR.cells)
      | (go_at_call 24; with_reducible refine ((C3 _ HR)).mono ?_; rintro e u ⟨rfl, hb⟩; replace HR := HR.on hb; clear hb d0 d1 d2 d3 d4 d5 e0 e1 e2 e3 e4 e5 e6 e7 e8 e9 e10; obtain ⟨⟨d0, d1, d2, d3, d4, d5⟩, e0, e1, e2, e3, e4, e5, e6, e7, e8, e9, e10⟩ := HR.cells)
      | (go_at_call 25; with_reducible refine ((C4 _ HR)).mono ?_; rintro e u ⟨rfl, hb⟩; replace HR := HR.on hb; clear hb d0 d1 d2 d3 d4 d5 e0 e1 e2 e3 e4 e5 e6 e7 e8 e9 e10; obtain ⟨⟨d0, d1, d2, d3, d4, d5⟩, e0, e1, e2, e3, e4, e5, e6, e7, e8, e9, e10⟩ := HR.cells))
    go_ret
    exact ⟨ret_bool HF.out, HR.bel⟩
  by_cases h2 : (f.un.length : Int) = (o.steps.length : Int)
  rotate_left
  · have HF : Hid (false = mayF o f) := by show _ = _; unfold mayF; rw [p1, decide_eq_false (show ¬ f.un.length = o.steps.length by omega)]; simp
    go_enter Try.func12, Try.ntmps12
    go_wp2_with (first
      | (go_at_call 22; with_reducible refine ((C1 _ HR)).mono ?_; rintro e u ⟨rfl, hb⟩; replace HR := HR.on hb; clear hb d0 d1 d2 d3 d4 d5 e0 e1 e2 e3 e4 e5 e6 e7 e8 e9 e10; obtain ⟨⟨d0, d1, d2, d3, d4, d5⟩, e0, e1, e2, e3, e4, e5, e6, e7, e8, e9, e10⟩ := HR.cells)
      | (go_at_call 23; with_reducible refine ((C2 _ HR)).mono ?_; rintro e u ⟨rfl, hb⟩; replace HR := HR.on hb; clear hb d0 d1 d2 d3 d4 d5 e0 e1 e2 e3 e4 e5 e6 e7 e8 e9 e10; obtain ⟨⟨d0, d1, d2, d3, d4, d5⟩, e0, e1, e2, e3, e4, e5, e6, e7, e8, e9, e10⟩ := HR.cells)
      | (go_at_call 24; with_reducible refine ((C3 _ HR)).mono ?_; rintro e u ⟨rfl, hb⟩; replace HR := HR.on hb; clear hb d0 d1 d2 d3 d4 d5 e0 e1 e2 e3 e4 e5 e6 e7 e8 e9 e10; obtain ⟨⟨d0, d1, d2, d3, d4, d5⟩, e0, e1, e2, e3, e4, e5, e6, e7, e8, e9, e10⟩ := HR.cells)
      | (go_at_call 25; with_reducible refine ((C4 _ HR)).mono ?_; rintro e u ⟨rfl, hb⟩; replace HR := HR.on hb; clear hb d0 d1 d2 d3 d4 d5 e0 e1 e2 e3 e4 e5 e6 e7 e8 e9 e10; obtain ⟨⟨d0, d1, d2, d3, d4, d5⟩, e0, e1, e2, e3, e4, e5, e6, e7, e8, e9, e10⟩ := HR.cells))
    go_ret
    exact ⟨ret_bool HF.out, HR.bel⟩
  cases p2 : decF f
  · have HF : Hid (false = mayF o f) := by show _ = _; unfold mayF; rw [p2]; simp
    rw [p2] at C2
    go_enter Try.func12, Try.ntmps12
    go_wp2_with (first
      | (go_at_call 22; with_reducible refine ((C1 _ HR)).mono ?_; rintro e u ⟨rfl, hb⟩; replace HR := HR.on hb; clear hb d0 d1 d2 d3 d4 d5 e0 e1 e2 e3 e4 e5 e6 e7 e8 e9 e10; obtain ⟨⟨d0, d1, d2, d3, d4, d5⟩, e0, e1, e2, e3, e4, e5, e6, e7, e8, e9, e10⟩ := HR.cells)
      | (go_at_call 23; with_reducible refine ((C2 _ HR)).mono ?_; rintro e u ⟨rfl, hb⟩; replace HR := HR.on hb; clear hb d0 d1 d2 d3 d4 d5 e0 e1 e2 e3 e4 e5 e6 e7 e8 e9 e10; obtain ⟨⟨d0, d1, d2, d3, d4, d5⟩, e0, e1, e2, e3, e4, e5, e6, e7, e8, e9, e10⟩ := HR.cells)
      | (go_at_call 24; with_reducible refine ((C3 _ HR)).mono ?_; rintro e u ⟨rfl, hb⟩; replace HR := HR.on hb; clear hb d0 d1 d2 d3 d4 d5 e0 e1 e2 e3 e4 e5 e6 e7 e8 e9 e10; obtain ⟨⟨d0, d1, d2, d3, d4, d5⟩, e0, e1, e2, e3, e4, e5, e6, e7, e8, e9, e10⟩ := HR.cells)
      | (go_at_call 25; with_reducible refine ((C4 _ HR)).mono ?_; rintro e u ⟨rfl, hb⟩; replace HR := HR.on hb; clear hb d0 d1 d2 d3 d4 d5 e0 e1 e2 e3 e4 e5 e6 e7 e8 e9 e10; obtain ⟨⟨d0, d1, d2, d3, d4, d5⟩, e0, e1, e2, e3, e4, e5, e6, e7, e8, e9, e10⟩ := HR.cells))
    go_ret
    exact ⟨ret_bool HF.out, HR.bel⟩
  cases p3 : donF f
  · have HF : Hid (false = mayF o f) := by show _ = _; unfold mayF; rw [p3]; simp
    rw [p2] at C2; rw [p3] at C3
    go_enter Try.func12, Try.ntmps12
    go_wp2_with (first
      | (go_at_call 22; with_reducible refine ((C1 _ HR)).mono ?_; rintro e u ⟨rfl, hb⟩; replace HR := HR.on hb; clear hb d0 d1 d2 d3 d4 d5 e0 e1 e2 e3 e4 e5 e6 e7 e8 e9 e10; obtain ⟨⟨d0, d1, d2, d3, d4, d5⟩, e0, e1, e2, e3, e4, e5, e6, e7, e8, e9, e10⟩ := HR.cells)
      | (go_at_call 23; with_reducible refine ((C2 _ HR)).mono ?_; rintro e u ⟨rfl, hb⟩; replace HR := HR.on hb; clear hb d0 d1 d2 d3 d4 d5 e0 e1 e2 e3 e4 e5 e6 e7 e8 e9 e10; obtain ⟨⟨d0, d1, d2, d3, d4, d5⟩, e0, e1, e2, e3, e4, e5, e6, e7, e8, e9, e10⟩ := HR.cells)
      | (go_at_call 24; with_reducible refine ((C3 _ HR)).mono ?_; rintro e u ⟨rfl, hb⟩; replace HR := HR.on hb; clear hb d0 d1 d2 d3 d4 d5 e0 e1 e2 e3 e4 e5 e6 e7 e8 e9 e10; obtain ⟨⟨d0, d1, d2, d3, d4, d5⟩, e0, e1, e2, e3, e4, e5, e6, e7, e8, e9, e10⟩ := HR.cells)
      | (go_at_call 25; with_reducible refine ((C4 _ HR)).mono ?_; rintro e u ⟨rfl, hb⟩; replace HR := HR.on hb; clear hb d0 d1 d2 d3 d4 d5 e0 e1 e2 e3 e4 e5 e6 e7 e8 e9 e10; obtain ⟨⟨d0, d1, d2, d3, d4, d5⟩, e0, e1, e2, e3, e4, e5, e6, e7, e8, e9, e10⟩ := HR.cells))
    go_ret
    exact ⟨ret_bool HF.out, HR.bel⟩
  cases p4 : undF f
  · have HF : Hid (false = mayF o f) := by show _ = _; unfold mayF; rw [p4]; simp
    rw [p2] at C2; rw [p3] at C3; rw [p4] at C4
    go_enter Try.func12, Try.ntmps12
    go_wp2_with (first
      | (go_at_call 22; with_reducible refine ((C1 _ HR)).mono ?_; rintro e u ⟨rfl, hb⟩; replace HR := HR.on hb; clear hb d0 d1 d2 d3 d4 d5 e0 e1 e2 e3 e4 e5 e6 e7 e8 e9 e10; obtain ⟨⟨d0, d1, d2, d3, d4, d5⟩, e0, e1, e2, e3, e4, e5, e6, e7, e8, e9, e10⟩ := HR.cells)
      | (go_at_call 23; with_reducible refine ((C2 _ HR)).mono ?_; rintro e u ⟨rfl, hb⟩; replace HR := HR.on hb; clear hb d0 d1 d2 d3 d4 d5 e0 e1 e2 e3 e4 e5 e6 e7 e8 e9 e10; obtain ⟨⟨d0, d1, d2, d3, d4, d5⟩, e0, e1, e2, e3, e4, e5, e6, e7, e8, e9, e10⟩ := HR.cells)
      | (go_at_call 24; with_reducible refine ((C3 _ HR)).mono ?_; rintro e u ⟨rfl, hb⟩; replace HR := HR.on hb; clear hb d0 d1 d2 d3 d4 d5 e0 e1 e2 e3 e4 e5 e6 e7 e8 e9 e10; obtain ⟨⟨d0, d1, d2, d3, d4, d5⟩, e0, e1, e2, e3, e4, e5, e6, e7, e8, e9, e10⟩ := HR.cells)
      | (go_at_call 25; with_reducible refine ((C4 _ HR)).mono ?_; rintro e u ⟨rfl, hb⟩; replace HR := HR.on hb; clear hb d0 d1 d2 d3 d4 d5 e0 e1 e2 e3 e4 e5 e6 e7 e8 e9 e10; obtain ⟨⟨d0, d1, d2, d3, d4, d5⟩, e0, e1, e2, e3, e4, e5, e6, e7, e8, e9, e10⟩ := HR.cells))
    go_ret
    exact ⟨ret_bool HF.out, HR.bel⟩
  · have HF : Hid (true = mayF o f) := by show _ = _; unfold mayF; rw [p1, p2, p3, p4, decide_eq_true (show f.dn.length = o.steps.length by omega), decide_eq_true (show f.un.length = o.steps.length by omega)]; rfl
    rw [p2] at C2; rw [p3] at C3; rw [p4] at C4
    go_enter Try.func12, Try.ntmps12
    go_wp2_with (first
      | (go_at_call 22; with_reducible refine ((C1 _ HR)).mono ?_; rintro e u ⟨rfl, hb⟩; replace HR := HR.on hb; clear hb d0 d1 d2 d3 d4 d5 e0 e1 e2 e3 e4 e5 e6 e7 e8 e9 e10; obtain ⟨⟨d0, d1, d2, d3, d4, d5⟩, e0, e1, e2, e3, e4, e5, e6, e7, e8, e9, e10⟩ := HR.cells)
      | (go_at_call 23; with_reducible refine ((C2 _ HR)).mono ?_; rintro e u ⟨rfl, hb⟩; replace HR := HR.on hb; clear hb d0 d1 d2 d3 d4 d5 e0 e1 e2 e3 e4 e5 e6 e7 e8 e9 e10; obtain ⟨⟨d0, d1, d2, d3, d4, d5⟩, e0, e1, e2, e3, e4, e5, e6, e7, e8, e9, e10⟩ := HR.cells)
      | (go_at_call 24; with_reducible refine ((C3 _ HR)).mono ?_; rintro e u ⟨rfl, hb⟩; replace HR := HR.on hb; clear hb d0 d1 d2 d3 d4 d5 e0 e1 e2 e3 e4 e5 e6 e7 e8 e9 e10; obtain ⟨⟨d0, d1, d2, d3, d4, d5⟩, e0, e1, e2, e3, e4, e5, e6, e7, e8, e9, e10⟩ := HR.cells)
      | (go_at_call 25; with_reducible refine ((C4 _ HR)).mono ?_; rintro e u ⟨rfl, hb⟩; replace HR := HR.on hb; clear hb d0 d1 d2 d3 d4 d5 e0 e1 e2 e3 e4 e5 e6 e7 e8 e9 e10; obtain ⟨⟨d0, d1, d2, d3, d4, d5⟩, e0, e1, e2, e3, e4, e5, e6, e7, e8, e9, e10⟩ := HR.cells))
    go_ret
    exact ⟨ret_bool HF.out, HR.bel⟩

theorem neq_two (x y : Bool) (u : World) : (binOp .neq 26 (.agg #[.bool x, .bool y]) (.agg #[.bool false, .bool false])).run Try.prog u = .ok (.bool (x || y)) u := by
  cases x <;> cases y <;> kernel_rfl

set_option maxRecDepth 100000 in
set_option maxHeartbeats 8000000 in
theorem sstate_any (o : Od) (a : Option Addr) (c : Nat) (f : Fa) (da : Option Addr) (dc : Nat) (ua : Option Addr) (uc : Nat) (w : World) (ha : Sts w a o.steps) (hl : o.steps.length ≤ 9223372036854775807) (hi : FaIn w f da dc ua uc) :
    Calls Try.prog 14 #[.agg #[.int .i64 o.id, .int .i64 o.item, .int .i64 o.qty, .int .i64 o.client, .int .i64 o.price, .slice a o.steps.length c], .agg #[.slice da f.dn.length dc, .slice ua f.un.length uc, .bool f.asked, .bool f.yes, .bool f.turned, .bool f.k0, .bool f.k1, .bool f.ship, .bool f.d0, .bool f.d1, .bool f.acc]] w fun e w' => e = .returned (.int .i64 (stF o f)) ∧ Below w.heap.size w w' := by
  have HR := Rd.new (c := c) 28 ha hl hi
  have C1 : ∀ u, Rd w w.heap.size (w.heap.size + 1) 28 o a c f da dc ua uc u → Calls Try.prog 12 #[.agg #[.int .i64 o.id, .int .i64 o.item, .int .i64 o.qty, .int .i64 o.client, .int .i64 o.price, .slice a o.steps.length c], .agg #[.slice da f.dn.length dc, .slice ua f.un.length uc, .bool f.asked, .bool f.yes, .bool f.turned, .bool f.k0, .bool f.k1, .bool f.ship, .bool f.d0, .bool f.d1, .bool f.acc]] u fun e w' => e = .returned (.bool (mayF o f)) ∧ Below u.heap.size u w' := fun u h => smay_any o a c f da dc ua uc u h.st h.hl h.fi
  have C2 : ∀ u, Rd w w.heap.size (w.heap.size + 1) 28 o a c f da dc ua uc u → Calls Try.prog 28 #[.agg #[.slice da f.dn.length dc, .slice ua f.un.length uc, .bool f.asked, .bool f.yes, .bool f.turned, .bool f.k0, .bool f.k1, .bool f.ship, .bool f.d0, .bool f.d1, .bool f.acc]] u fun e w' => e = .returned (.bool (f.k0 && f.k1)) ∧ Below u.heap.size u w' := fun u h => acked_any f da dc ua uc u
  have C3 : ∀ u, Rd w w.heap.size (w.heap.size + 1) 28 o a c f da dc ua uc u → Calls Try.prog 29 #[.slice ua f.un.length uc] u fun e w' => e = .returned (.bool (allB f.un)) ∧ Below u.heap.size u w' := fun u h => (sall_any f.un ua uc u h.fi.un (by have := h.fi.ul; have := h.fi.um; omega)).mono (fun e w' h2 => ⟨h2.1, h2.2 ▸ Below.refl _ _⟩)
  have Q := neq_two f.d0 f.d1
  obtain ⟨r, hr⟩ : ∃ r, stF o f = r := ⟨_, rfl⟩
  have HS := hide hr
  rw [hr]
  unfold stF at HS
  clear ha hl hi hr
  obtain ⟨dn, un, asked, yes, turned, k0, k1, ship, g0, g1, acc⟩ := f
  dsimp only at C1 C2 C3 Q HS
  have HC := HR.cells; dsimp only at HC; obtain ⟨⟨d0, d1, d2, d3, d4, d5⟩, e0, e1, e2, e3, e4, e5, e6, e7, e8, e9, e10⟩ := HC
  obtain ⟨m, hm⟩ : ∃ m, mayF o ⟨dn, un, asked, yes, turned, k0, k1, ship, g0, g1, acc⟩ = m := ⟨_, rfl⟩
  obtain ⟨D, hD⟩ : ∃ D, (g0 || g1) = D := ⟨_, rfl⟩
  obtain ⟨K, hK⟩ : ∃ K, (k0 && k1) = K := ⟨_, rfl⟩
  obtain ⟨U, hU⟩ : ∃ U, allB un = U := ⟨_, rfl⟩
  rw [hm] at C1
  rw [hD] at Q
  rw [hK] at C2
  rw [hU] at C3
  rw [hm, hD, hK, hU] at HS
  clear hD hK hU
  · cases m
    · clear hm
      go_enter Try.func14, Try.ntmps14
      go_wp2_with (first
        | (go_at_call 12; with_reducible refine ((C1 _ HR)).mono ?_; rintro e u ⟨rfl, hb⟩; replace HR := HR.on hb; clear hb d0 d1 d2 d3 d4 d5 e0 e1 e2 e3 e4 e5 e6 e7 e8 e9 e10; have HC := HR.cells; dsimp only at HC; obtain ⟨⟨d0, d1, d2, d3, d4, d5⟩, e0, e1, e2, e3, e4, e5, e6, e7, e8, e9, e10⟩ := HC)
        | (go_at_call 28; with_reducible refine ((C2 _ HR)).mono ?_; rintro e u ⟨rfl, hb⟩; replace HR := HR.on hb; clear hb d0 d1 d2 d3 d4 d5 e0 e1 e2 e3 e4 e5 e6 e7 e8 e9 e10; have HC := HR.cells; dsimp only at HC; obtain ⟨⟨d0, d1, d2, d3, d4, d5⟩, e0, e1, e2, e3, e4, e5, e6, e7, e8, e9, e10⟩ := HC)
        | (go_at_call 29; with_reducible refine ((C3 _ HR)).mono ?_; rintro e u ⟨rfl, hb⟩; replace HR := HR.on hb; clear hb d0 d1 d2 d3 d4 d5 e0 e1 e2 e3 e4 e5 e6 e7 e8 e9 e10; have HC := HR.cells; dsimp only at HC; obtain ⟨⟨d0, d1, d2, d3, d4, d5⟩, e0, e1, e2, e3, e4, e5, e6, e7, e8, e9, e10⟩ := HC))
      go_ret
      exact ⟨ret_int HS.out, HR.bel⟩
    · cases D
      · cases turned
        · cases yes
          · cases asked
            · clear hm
              go_enter Try.func14, Try.ntmps14
              go_wp2_with (first
                | (go_at_call 12; with_reducible refine ((C1 _ HR)).mono ?_; rintro e u ⟨rfl, hb⟩; replace HR := HR.on hb; clear hb d0 d1 d2 d3 d4 d5 e0 e1 e2 e3 e4 e5 e6 e7 e8 e9 e10; have HC := HR.cells; dsimp only at HC; obtain ⟨⟨d0, d1, d2, d3, d4, d5⟩, e0, e1, e2, e3, e4, e5, e6, e7, e8, e9, e10⟩ := HC)
                | (go_at_call 28; with_reducible refine ((C2 _ HR)).mono ?_; rintro e u ⟨rfl, hb⟩; replace HR := HR.on hb; clear hb d0 d1 d2 d3 d4 d5 e0 e1 e2 e3 e4 e5 e6 e7 e8 e9 e10; have HC := HR.cells; dsimp only at HC; obtain ⟨⟨d0, d1, d2, d3, d4, d5⟩, e0, e1, e2, e3, e4, e5, e6, e7, e8, e9, e10⟩ := HC)
                | (go_at_call 29; with_reducible refine ((C3 _ HR)).mono ?_; rintro e u ⟨rfl, hb⟩; replace HR := HR.on hb; clear hb d0 d1 d2 d3 d4 d5 e0 e1 e2 e3 e4 e5 e6 e7 e8 e9 e10; have HC := HR.cells; dsimp only at HC; obtain ⟨⟨d0, d1, d2, d3, d4, d5⟩, e0, e1, e2, e3, e4, e5, e6, e7, e8, e9, e10⟩ := HC))
              go_ret
              exact ⟨ret_int HS.out, HR.bel⟩
            · clear hm
              go_enter Try.func14, Try.ntmps14
              go_wp2_with (first
                | (go_at_call 12; with_reducible refine ((C1 _ HR)).mono ?_; rintro e u ⟨rfl, hb⟩; replace HR := HR.on hb; clear hb d0 d1 d2 d3 d4 d5 e0 e1 e2 e3 e4 e5 e6 e7 e8 e9 e10; have HC := HR.cells; dsimp only at HC; obtain ⟨⟨d0, d1, d2, d3, d4, d5⟩, e0, e1, e2, e3, e4, e5, e6, e7, e8, e9, e10⟩ := HC)
                | (go_at_call 28; with_reducible refine ((C2 _ HR)).mono ?_; rintro e u ⟨rfl, hb⟩; replace HR := HR.on hb; clear hb d0 d1 d2 d3 d4 d5 e0 e1 e2 e3 e4 e5 e6 e7 e8 e9 e10; have HC := HR.cells; dsimp only at HC; obtain ⟨⟨d0, d1, d2, d3, d4, d5⟩, e0, e1, e2, e3, e4, e5, e6, e7, e8, e9, e10⟩ := HC)
                | (go_at_call 29; with_reducible refine ((C3 _ HR)).mono ?_; rintro e u ⟨rfl, hb⟩; replace HR := HR.on hb; clear hb d0 d1 d2 d3 d4 d5 e0 e1 e2 e3 e4 e5 e6 e7 e8 e9 e10; have HC := HR.cells; dsimp only at HC; obtain ⟨⟨d0, d1, d2, d3, d4, d5⟩, e0, e1, e2, e3, e4, e5, e6, e7, e8, e9, e10⟩ := HC))
              go_ret
              exact ⟨ret_int HS.out, HR.bel⟩
          · cases K
            · clear hm
              go_enter Try.func14, Try.ntmps14
              go_wp2_with (first
                | (go_at_call 12; with_reducible refine ((C1 _ HR)).mono ?_; rintro e u ⟨rfl, hb⟩; replace HR := HR.on hb; clear hb d0 d1 d2 d3 d4 d5 e0 e1 e2 e3 e4 e5 e6 e7 e8 e9 e10; have HC := HR.cells; dsimp only at HC; obtain ⟨⟨d0, d1, d2, d3, d4, d5⟩, e0, e1, e2, e3, e4, e5, e6, e7, e8, e9, e10⟩ := HC)
                | (go_at_call 28; with_reducible refine ((C2 _ HR)).mono ?_; rintro e u ⟨rfl, hb⟩; replace HR := HR.on hb; clear hb d0 d1 d2 d3 d4 d5 e0 e1 e2 e3 e4 e5 e6 e7 e8 e9 e10; have HC := HR.cells; dsimp only at HC; obtain ⟨⟨d0, d1, d2, d3, d4, d5⟩, e0, e1, e2, e3, e4, e5, e6, e7, e8, e9, e10⟩ := HC)
                | (go_at_call 29; with_reducible refine ((C3 _ HR)).mono ?_; rintro e u ⟨rfl, hb⟩; replace HR := HR.on hb; clear hb d0 d1 d2 d3 d4 d5 e0 e1 e2 e3 e4 e5 e6 e7 e8 e9 e10; have HC := HR.cells; dsimp only at HC; obtain ⟨⟨d0, d1, d2, d3, d4, d5⟩, e0, e1, e2, e3, e4, e5, e6, e7, e8, e9, e10⟩ := HC))
              go_ret
              exact ⟨ret_int HS.out, HR.bel⟩
            · cases ship
              · clear hm
                go_enter Try.func14, Try.ntmps14
                go_wp2_with (first
                  | (go_at_call 12; with_reducible refine ((C1 _ HR)).mono ?_; rintro e u ⟨rfl, hb⟩; replace HR := HR.on hb; clear hb d0 d1 d2 d3 d4 d5 e0 e1 e2 e3 e4 e5 e6 e7 e8 e9 e10; have HC := HR.cells; dsimp only at HC; obtain ⟨⟨d0, d1, d2, d3, d4, d5⟩, e0, e1, e2, e3, e4, e5, e6, e7, e8, e9, e10⟩ := HC)
                  | (go_at_call 28; with_reducible refine ((C2 _ HR)).mono ?_; rintro e u ⟨rfl, hb⟩; replace HR := HR.on hb; clear hb d0 d1 d2 d3 d4 d5 e0 e1 e2 e3 e4 e5 e6 e7 e8 e9 e10; have HC := HR.cells; dsimp only at HC; obtain ⟨⟨d0, d1, d2, d3, d4, d5⟩, e0, e1, e2, e3, e4, e5, e6, e7, e8, e9, e10⟩ := HC)
                  | (go_at_call 29; with_reducible refine ((C3 _ HR)).mono ?_; rintro e u ⟨rfl, hb⟩; replace HR := HR.on hb; clear hb d0 d1 d2 d3 d4 d5 e0 e1 e2 e3 e4 e5 e6 e7 e8 e9 e10; have HC := HR.cells; dsimp only at HC; obtain ⟨⟨d0, d1, d2, d3, d4, d5⟩, e0, e1, e2, e3, e4, e5, e6, e7, e8, e9, e10⟩ := HC))
                go_ret
                exact ⟨ret_int HS.out, HR.bel⟩
              · clear hm
                go_enter Try.func14, Try.ntmps14
                go_wp2_with (first
                  | (go_at_call 12; with_reducible refine ((C1 _ HR)).mono ?_; rintro e u ⟨rfl, hb⟩; replace HR := HR.on hb; clear hb d0 d1 d2 d3 d4 d5 e0 e1 e2 e3 e4 e5 e6 e7 e8 e9 e10; have HC := HR.cells; dsimp only at HC; obtain ⟨⟨d0, d1, d2, d3, d4, d5⟩, e0, e1, e2, e3, e4, e5, e6, e7, e8, e9, e10⟩ := HC)
                  | (go_at_call 28; with_reducible refine ((C2 _ HR)).mono ?_; rintro e u ⟨rfl, hb⟩; replace HR := HR.on hb; clear hb d0 d1 d2 d3 d4 d5 e0 e1 e2 e3 e4 e5 e6 e7 e8 e9 e10; have HC := HR.cells; dsimp only at HC; obtain ⟨⟨d0, d1, d2, d3, d4, d5⟩, e0, e1, e2, e3, e4, e5, e6, e7, e8, e9, e10⟩ := HC)
                  | (go_at_call 29; with_reducible refine ((C3 _ HR)).mono ?_; rintro e u ⟨rfl, hb⟩; replace HR := HR.on hb; clear hb d0 d1 d2 d3 d4 d5 e0 e1 e2 e3 e4 e5 e6 e7 e8 e9 e10; have HC := HR.cells; dsimp only at HC; obtain ⟨⟨d0, d1, d2, d3, d4, d5⟩, e0, e1, e2, e3, e4, e5, e6, e7, e8, e9, e10⟩ := HC))
                go_ret
                exact ⟨ret_int HS.out, HR.bel⟩
        · cases K
          · clear hm
            go_enter Try.func14, Try.ntmps14
            go_wp2_with (first
              | (go_at_call 12; with_reducible refine ((C1 _ HR)).mono ?_; rintro e u ⟨rfl, hb⟩; replace HR := HR.on hb; clear hb d0 d1 d2 d3 d4 d5 e0 e1 e2 e3 e4 e5 e6 e7 e8 e9 e10; have HC := HR.cells; dsimp only at HC; obtain ⟨⟨d0, d1, d2, d3, d4, d5⟩, e0, e1, e2, e3, e4, e5, e6, e7, e8, e9, e10⟩ := HC)
              | (go_at_call 28; with_reducible refine ((C2 _ HR)).mono ?_; rintro e u ⟨rfl, hb⟩; replace HR := HR.on hb; clear hb d0 d1 d2 d3 d4 d5 e0 e1 e2 e3 e4 e5 e6 e7 e8 e9 e10; have HC := HR.cells; dsimp only at HC; obtain ⟨⟨d0, d1, d2, d3, d4, d5⟩, e0, e1, e2, e3, e4, e5, e6, e7, e8, e9, e10⟩ := HC)
              | (go_at_call 29; with_reducible refine ((C3 _ HR)).mono ?_; rintro e u ⟨rfl, hb⟩; replace HR := HR.on hb; clear hb d0 d1 d2 d3 d4 d5 e0 e1 e2 e3 e4 e5 e6 e7 e8 e9 e10; have HC := HR.cells; dsimp only at HC; obtain ⟨⟨d0, d1, d2, d3, d4, d5⟩, e0, e1, e2, e3, e4, e5, e6, e7, e8, e9, e10⟩ := HC))
            go_ret
            exact ⟨ret_int HS.out, HR.bel⟩
          · cases U
            · clear hm
              go_enter Try.func14, Try.ntmps14
              go_wp2_with (first
                | (go_at_call 12; with_reducible refine ((C1 _ HR)).mono ?_; rintro e u ⟨rfl, hb⟩; replace HR := HR.on hb; clear hb d0 d1 d2 d3 d4 d5 e0 e1 e2 e3 e4 e5 e6 e7 e8 e9 e10; have HC := HR.cells; dsimp only at HC; obtain ⟨⟨d0, d1, d2, d3, d4, d5⟩, e0, e1, e2, e3, e4, e5, e6, e7, e8, e9, e10⟩ := HC)
                | (go_at_call 28; with_reducible refine ((C2 _ HR)).mono ?_; rintro e u ⟨rfl, hb⟩; replace HR := HR.on hb; clear hb d0 d1 d2 d3 d4 d5 e0 e1 e2 e3 e4 e5 e6 e7 e8 e9 e10; have HC := HR.cells; dsimp only at HC; obtain ⟨⟨d0, d1, d2, d3, d4, d5⟩, e0, e1, e2, e3, e4, e5, e6, e7, e8, e9, e10⟩ := HC)
                | (go_at_call 29; with_reducible refine ((C3 _ HR)).mono ?_; rintro e u ⟨rfl, hb⟩; replace HR := HR.on hb; clear hb d0 d1 d2 d3 d4 d5 e0 e1 e2 e3 e4 e5 e6 e7 e8 e9 e10; have HC := HR.cells; dsimp only at HC; obtain ⟨⟨d0, d1, d2, d3, d4, d5⟩, e0, e1, e2, e3, e4, e5, e6, e7, e8, e9, e10⟩ := HC))
              go_ret
              exact ⟨ret_int HS.out, HR.bel⟩
            · clear hm
              go_enter Try.func14, Try.ntmps14
              go_wp2_with (first
                | (go_at_call 12; with_reducible refine ((C1 _ HR)).mono ?_; rintro e u ⟨rfl, hb⟩; replace HR := HR.on hb; clear hb d0 d1 d2 d3 d4 d5 e0 e1 e2 e3 e4 e5 e6 e7 e8 e9 e10; have HC := HR.cells; dsimp only at HC; obtain ⟨⟨d0, d1, d2, d3, d4, d5⟩, e0, e1, e2, e3, e4, e5, e6, e7, e8, e9, e10⟩ := HC)
                | (go_at_call 28; with_reducible refine ((C2 _ HR)).mono ?_; rintro e u ⟨rfl, hb⟩; replace HR := HR.on hb; clear hb d0 d1 d2 d3 d4 d5 e0 e1 e2 e3 e4 e5 e6 e7 e8 e9 e10; have HC := HR.cells; dsimp only at HC; obtain ⟨⟨d0, d1, d2, d3, d4, d5⟩, e0, e1, e2, e3, e4, e5, e6, e7, e8, e9, e10⟩ := HC)
                | (go_at_call 29; with_reducible refine ((C3 _ HR)).mono ?_; rintro e u ⟨rfl, hb⟩; replace HR := HR.on hb; clear hb d0 d1 d2 d3 d4 d5 e0 e1 e2 e3 e4 e5 e6 e7 e8 e9 e10; have HC := HR.cells; dsimp only at HC; obtain ⟨⟨d0, d1, d2, d3, d4, d5⟩, e0, e1, e2, e3, e4, e5, e6, e7, e8, e9, e10⟩ := HC))
              go_ret
              exact ⟨ret_int HS.out, HR.bel⟩
      · cases acc
        · clear hm
          go_enter Try.func14, Try.ntmps14
          go_wp2_with (first
            | (go_at_call 12; with_reducible refine ((C1 _ HR)).mono ?_; rintro e u ⟨rfl, hb⟩; replace HR := HR.on hb; clear hb d0 d1 d2 d3 d4 d5 e0 e1 e2 e3 e4 e5 e6 e7 e8 e9 e10; have HC := HR.cells; dsimp only at HC; obtain ⟨⟨d0, d1, d2, d3, d4, d5⟩, e0, e1, e2, e3, e4, e5, e6, e7, e8, e9, e10⟩ := HC)
            | (go_at_call 28; with_reducible refine ((C2 _ HR)).mono ?_; rintro e u ⟨rfl, hb⟩; replace HR := HR.on hb; clear hb d0 d1 d2 d3 d4 d5 e0 e1 e2 e3 e4 e5 e6 e7 e8 e9 e10; have HC := HR.cells; dsimp only at HC; obtain ⟨⟨d0, d1, d2, d3, d4, d5⟩, e0, e1, e2, e3, e4, e5, e6, e7, e8, e9, e10⟩ := HC)
            | (go_at_call 29; with_reducible refine ((C3 _ HR)).mono ?_; rintro e u ⟨rfl, hb⟩; replace HR := HR.on hb; clear hb d0 d1 d2 d3 d4 d5 e0 e1 e2 e3 e4 e5 e6 e7 e8 e9 e10; have HC := HR.cells; dsimp only at HC; obtain ⟨⟨d0, d1, d2, d3, d4, d5⟩, e0, e1, e2, e3, e4, e5, e6, e7, e8, e9, e10⟩ := HC))
          go_ret
          exact ⟨ret_int HS.out, HR.bel⟩
        · cases turned
          · cases yes
            · cases asked
              · clear hm
                go_enter Try.func14, Try.ntmps14
                go_wp2_with (first
                  | (go_at_call 12; with_reducible refine ((C1 _ HR)).mono ?_; rintro e u ⟨rfl, hb⟩; replace HR := HR.on hb; clear hb d0 d1 d2 d3 d4 d5 e0 e1 e2 e3 e4 e5 e6 e7 e8 e9 e10; have HC := HR.cells; dsimp only at HC; obtain ⟨⟨d0, d1, d2, d3, d4, d5⟩, e0, e1, e2, e3, e4, e5, e6, e7, e8, e9, e10⟩ := HC)
                  | (go_at_call 28; with_reducible refine ((C2 _ HR)).mono ?_; rintro e u ⟨rfl, hb⟩; replace HR := HR.on hb; clear hb d0 d1 d2 d3 d4 d5 e0 e1 e2 e3 e4 e5 e6 e7 e8 e9 e10; have HC := HR.cells; dsimp only at HC; obtain ⟨⟨d0, d1, d2, d3, d4, d5⟩, e0, e1, e2, e3, e4, e5, e6, e7, e8, e9, e10⟩ := HC)
                  | (go_at_call 29; with_reducible refine ((C3 _ HR)).mono ?_; rintro e u ⟨rfl, hb⟩; replace HR := HR.on hb; clear hb d0 d1 d2 d3 d4 d5 e0 e1 e2 e3 e4 e5 e6 e7 e8 e9 e10; have HC := HR.cells; dsimp only at HC; obtain ⟨⟨d0, d1, d2, d3, d4, d5⟩, e0, e1, e2, e3, e4, e5, e6, e7, e8, e9, e10⟩ := HC))
                go_ret
                exact ⟨ret_int HS.out, HR.bel⟩
              · clear hm
                go_enter Try.func14, Try.ntmps14
                go_wp2_with (first
                  | (go_at_call 12; with_reducible refine ((C1 _ HR)).mono ?_; rintro e u ⟨rfl, hb⟩; replace HR := HR.on hb; clear hb d0 d1 d2 d3 d4 d5 e0 e1 e2 e3 e4 e5 e6 e7 e8 e9 e10; have HC := HR.cells; dsimp only at HC; obtain ⟨⟨d0, d1, d2, d3, d4, d5⟩, e0, e1, e2, e3, e4, e5, e6, e7, e8, e9, e10⟩ := HC)
                  | (go_at_call 28; with_reducible refine ((C2 _ HR)).mono ?_; rintro e u ⟨rfl, hb⟩; replace HR := HR.on hb; clear hb d0 d1 d2 d3 d4 d5 e0 e1 e2 e3 e4 e5 e6 e7 e8 e9 e10; have HC := HR.cells; dsimp only at HC; obtain ⟨⟨d0, d1, d2, d3, d4, d5⟩, e0, e1, e2, e3, e4, e5, e6, e7, e8, e9, e10⟩ := HC)
                  | (go_at_call 29; with_reducible refine ((C3 _ HR)).mono ?_; rintro e u ⟨rfl, hb⟩; replace HR := HR.on hb; clear hb d0 d1 d2 d3 d4 d5 e0 e1 e2 e3 e4 e5 e6 e7 e8 e9 e10; have HC := HR.cells; dsimp only at HC; obtain ⟨⟨d0, d1, d2, d3, d4, d5⟩, e0, e1, e2, e3, e4, e5, e6, e7, e8, e9, e10⟩ := HC))
                go_ret
                exact ⟨ret_int HS.out, HR.bel⟩
            · cases K
              · clear hm
                go_enter Try.func14, Try.ntmps14
                go_wp2_with (first
                  | (go_at_call 12; with_reducible refine ((C1 _ HR)).mono ?_; rintro e u ⟨rfl, hb⟩; replace HR := HR.on hb; clear hb d0 d1 d2 d3 d4 d5 e0 e1 e2 e3 e4 e5 e6 e7 e8 e9 e10; have HC := HR.cells; dsimp only at HC; obtain ⟨⟨d0, d1, d2, d3, d4, d5⟩, e0, e1, e2, e3, e4, e5, e6, e7, e8, e9, e10⟩ := HC)
                  | (go_at_call 28; with_reducible refine ((C2 _ HR)).mono ?_; rintro e u ⟨rfl, hb⟩; replace HR := HR.on hb; clear hb d0 d1 d2 d3 d4 d5 e0 e1 e2 e3 e4 e5 e6 e7 e8 e9 e10; have HC := HR.cells; dsimp only at HC; obtain ⟨⟨d0, d1, d2, d3, d4, d5⟩, e0, e1, e2, e3, e4, e5, e6, e7, e8, e9, e10⟩ := HC)
                  | (go_at_call 29; with_reducible refine ((C3 _ HR)).mono ?_; rintro e u ⟨rfl, hb⟩; replace HR := HR.on hb; clear hb d0 d1 d2 d3 d4 d5 e0 e1 e2 e3 e4 e5 e6 e7 e8 e9 e10; have HC := HR.cells; dsimp only at HC; obtain ⟨⟨d0, d1, d2, d3, d4, d5⟩, e0, e1, e2, e3, e4, e5, e6, e7, e8, e9, e10⟩ := HC))
                go_ret
                exact ⟨ret_int HS.out, HR.bel⟩
              · cases ship
                · clear hm
                  go_enter Try.func14, Try.ntmps14
                  go_wp2_with (first
                    | (go_at_call 12; with_reducible refine ((C1 _ HR)).mono ?_; rintro e u ⟨rfl, hb⟩; replace HR := HR.on hb; clear hb d0 d1 d2 d3 d4 d5 e0 e1 e2 e3 e4 e5 e6 e7 e8 e9 e10; have HC := HR.cells; dsimp only at HC; obtain ⟨⟨d0, d1, d2, d3, d4, d5⟩, e0, e1, e2, e3, e4, e5, e6, e7, e8, e9, e10⟩ := HC)
                    | (go_at_call 28; with_reducible refine ((C2 _ HR)).mono ?_; rintro e u ⟨rfl, hb⟩; replace HR := HR.on hb; clear hb d0 d1 d2 d3 d4 d5 e0 e1 e2 e3 e4 e5 e6 e7 e8 e9 e10; have HC := HR.cells; dsimp only at HC; obtain ⟨⟨d0, d1, d2, d3, d4, d5⟩, e0, e1, e2, e3, e4, e5, e6, e7, e8, e9, e10⟩ := HC)
                    | (go_at_call 29; with_reducible refine ((C3 _ HR)).mono ?_; rintro e u ⟨rfl, hb⟩; replace HR := HR.on hb; clear hb d0 d1 d2 d3 d4 d5 e0 e1 e2 e3 e4 e5 e6 e7 e8 e9 e10; have HC := HR.cells; dsimp only at HC; obtain ⟨⟨d0, d1, d2, d3, d4, d5⟩, e0, e1, e2, e3, e4, e5, e6, e7, e8, e9, e10⟩ := HC))
                  go_ret
                  exact ⟨ret_int HS.out, HR.bel⟩
                · clear hm
                  go_enter Try.func14, Try.ntmps14
                  go_wp2_with (first
                    | (go_at_call 12; with_reducible refine ((C1 _ HR)).mono ?_; rintro e u ⟨rfl, hb⟩; replace HR := HR.on hb; clear hb d0 d1 d2 d3 d4 d5 e0 e1 e2 e3 e4 e5 e6 e7 e8 e9 e10; have HC := HR.cells; dsimp only at HC; obtain ⟨⟨d0, d1, d2, d3, d4, d5⟩, e0, e1, e2, e3, e4, e5, e6, e7, e8, e9, e10⟩ := HC)
                    | (go_at_call 28; with_reducible refine ((C2 _ HR)).mono ?_; rintro e u ⟨rfl, hb⟩; replace HR := HR.on hb; clear hb d0 d1 d2 d3 d4 d5 e0 e1 e2 e3 e4 e5 e6 e7 e8 e9 e10; have HC := HR.cells; dsimp only at HC; obtain ⟨⟨d0, d1, d2, d3, d4, d5⟩, e0, e1, e2, e3, e4, e5, e6, e7, e8, e9, e10⟩ := HC)
                    | (go_at_call 29; with_reducible refine ((C3 _ HR)).mono ?_; rintro e u ⟨rfl, hb⟩; replace HR := HR.on hb; clear hb d0 d1 d2 d3 d4 d5 e0 e1 e2 e3 e4 e5 e6 e7 e8 e9 e10; have HC := HR.cells; dsimp only at HC; obtain ⟨⟨d0, d1, d2, d3, d4, d5⟩, e0, e1, e2, e3, e4, e5, e6, e7, e8, e9, e10⟩ := HC))
                  go_ret
                  exact ⟨ret_int HS.out, HR.bel⟩
          · cases K
            · clear hm
              go_enter Try.func14, Try.ntmps14
              go_wp2_with (first
                | (go_at_call 12; with_reducible refine ((C1 _ HR)).mono ?_; rintro e u ⟨rfl, hb⟩; replace HR := HR.on hb; clear hb d0 d1 d2 d3 d4 d5 e0 e1 e2 e3 e4 e5 e6 e7 e8 e9 e10; have HC := HR.cells; dsimp only at HC; obtain ⟨⟨d0, d1, d2, d3, d4, d5⟩, e0, e1, e2, e3, e4, e5, e6, e7, e8, e9, e10⟩ := HC)
                | (go_at_call 28; with_reducible refine ((C2 _ HR)).mono ?_; rintro e u ⟨rfl, hb⟩; replace HR := HR.on hb; clear hb d0 d1 d2 d3 d4 d5 e0 e1 e2 e3 e4 e5 e6 e7 e8 e9 e10; have HC := HR.cells; dsimp only at HC; obtain ⟨⟨d0, d1, d2, d3, d4, d5⟩, e0, e1, e2, e3, e4, e5, e6, e7, e8, e9, e10⟩ := HC)
                | (go_at_call 29; with_reducible refine ((C3 _ HR)).mono ?_; rintro e u ⟨rfl, hb⟩; replace HR := HR.on hb; clear hb d0 d1 d2 d3 d4 d5 e0 e1 e2 e3 e4 e5 e6 e7 e8 e9 e10; have HC := HR.cells; dsimp only at HC; obtain ⟨⟨d0, d1, d2, d3, d4, d5⟩, e0, e1, e2, e3, e4, e5, e6, e7, e8, e9, e10⟩ := HC))
              go_ret
              exact ⟨ret_int HS.out, HR.bel⟩
            · cases U
              · clear hm
                go_enter Try.func14, Try.ntmps14
                go_wp2_with (first
                  | (go_at_call 12; with_reducible refine ((C1 _ HR)).mono ?_; rintro e u ⟨rfl, hb⟩; replace HR := HR.on hb; clear hb d0 d1 d2 d3 d4 d5 e0 e1 e2 e3 e4 e5 e6 e7 e8 e9 e10; have HC := HR.cells; dsimp only at HC; obtain ⟨⟨d0, d1, d2, d3, d4, d5⟩, e0, e1, e2, e3, e4, e5, e6, e7, e8, e9, e10⟩ := HC)
                  | (go_at_call 28; with_reducible refine ((C2 _ HR)).mono ?_; rintro e u ⟨rfl, hb⟩; replace HR := HR.on hb; clear hb d0 d1 d2 d3 d4 d5 e0 e1 e2 e3 e4 e5 e6 e7 e8 e9 e10; have HC := HR.cells; dsimp only at HC; obtain ⟨⟨d0, d1, d2, d3, d4, d5⟩, e0, e1, e2, e3, e4, e5, e6, e7, e8, e9, e10⟩ := HC)
                  | (go_at_call 29; with_reducible refine ((C3 _ HR)).mono ?_; rintro e u ⟨rfl, hb⟩; replace HR := HR.on hb; clear hb d0 d1 d2 d3 d4 d5 e0 e1 e2 e3 e4 e5 e6 e7 e8 e9 e10; have HC := HR.cells; dsimp only at HC; obtain ⟨⟨d0, d1, d2, d3, d4, d5⟩, e0, e1, e2, e3, e4, e5, e6, e7, e8, e9, e10⟩ := HC))
                go_ret
                exact ⟨ret_int HS.out, HR.bel⟩
              · clear hm
                go_enter Try.func14, Try.ntmps14
                go_wp2_with (first
                  | (go_at_call 12; with_reducible refine ((C1 _ HR)).mono ?_; rintro e u ⟨rfl, hb⟩; replace HR := HR.on hb; clear hb d0 d1 d2 d3 d4 d5 e0 e1 e2 e3 e4 e5 e6 e7 e8 e9 e10; have HC := HR.cells; dsimp only at HC; obtain ⟨⟨d0, d1, d2, d3, d4, d5⟩, e0, e1, e2, e3, e4, e5, e6, e7, e8, e9, e10⟩ := HC)
                  | (go_at_call 28; with_reducible refine ((C2 _ HR)).mono ?_; rintro e u ⟨rfl, hb⟩; replace HR := HR.on hb; clear hb d0 d1 d2 d3 d4 d5 e0 e1 e2 e3 e4 e5 e6 e7 e8 e9 e10; have HC := HR.cells; dsimp only at HC; obtain ⟨⟨d0, d1, d2, d3, d4, d5⟩, e0, e1, e2, e3, e4, e5, e6, e7, e8, e9, e10⟩ := HC)
                  | (go_at_call 29; with_reducible refine ((C3 _ HR)).mono ?_; rintro e u ⟨rfl, hb⟩; replace HR := HR.on hb; clear hb d0 d1 d2 d3 d4 d5 e0 e1 e2 e3 e4 e5 e6 e7 e8 e9 e10; have HC := HR.cells; dsimp only at HC; obtain ⟨⟨d0, d1, d2, d3, d4, d5⟩, e0, e1, e2, e3, e4, e5, e6, e7, e8, e9, e10⟩ := HC))
                go_ret
                exact ⟨ret_int HS.out, HR.bel⟩
end Go.Proofs.Ytinbmnefdhkdfaa
