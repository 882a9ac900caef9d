/-
  SagaSpoilt: facts that cannot be of one order together are told.
-/
import Derived.Test.YtinbmnefdhkdfaaSgbW
import Derived.Test.YtinbmnefdhkdfaaSgbD
import Derived.Test.YtinbmnefdhkdfaaSgbM
import Derived.Test.YtinbmnefdhkdfaaSgbB2
namespace Go.Proofs.Ytinbmnefdhkdfaa
open Go.ChangeShapes Go.WideShapes Go.ChangeAt Go.RowKit

theorem rem4 (a : Int) : ∃ r : Int, (IntKind.u64.wrap a).tmod 4 = r ∧ (r = 0 ∨ r = 1 ∨ r = 2 ∨ r = 3) := by
  have h0 : 0 ≤ IntKind.u64.wrap a := by rw [IntKind.wrap_u64]; omega
  refine ⟨_, rfl, ?_⟩
  rw [Int.tmod_eq_emod_of_nonneg h0]
  omega
theorem FaIn.as {w : World} {f f' : Fa} {da : Option Addr} {dc : Nat} {ua : Option Addr} {uc : Nat} (h : FaIn w f da dc ua uc) (h1 : f'.dn = f.dn) (h2 : f'.un = f.un) : FaIn w f' da dc ua uc := ⟨h1 ▸ h.dn, h2 ▸ h.un, h1 ▸ h.dl, h2 ▸ h.ul, h.dm, h.um⟩
theorem may_light {o : Od} {f : Fa} (h : mayF o f = true) : litB o f = true := by
  obtain ⟨h1, h2, h3, -⟩ := mayF_parts h
  have := mayO_three h1
  unfold litB
  simp; omega
theorem not_state {o : Od} {f : Fa} (h : mayF o f = false) : stF o f = 0 := by unfold stF; rw [if_pos h]
theorem not_over {o : Od} {f : Fa} (h : mayF o f = false) : overF o f = false := by
  have : mayF o { f with acc := true } = false := h
  unfold overF
  rw [not_state this]
  rfl
theorem spoilt0 (o : Od) (f : Fa) : mayF o { f with yes := true, turned := true } = false := by unfold mayF decF; simp
theorem spoilt1 (o : Od) (f : Fa) : mayF o { f with yes := false, ship := true } = false := by unfold mayF decF; simp
theorem spoilt3 (o : Od) (f : Fa) : mayF o { f with asked := false, turned := false, yes := true } = false := by unfold mayF decF; simp
theorem spoilt2 (o : Od) (f : Fa) (h : mayF o f = true) : mayF o { f with dn := f.dn ++ [false] } = false := by
  have h2 := (mayF_parts h).2.1
  cases e : mayF o { f with dn := f.dn ++ [false] }
  · rfl
  · have h3 := (mayF_parts e).2.1
    simp at h3
    omega
theorem bound1 {w u : World} {p q : Nat} {t : TypeId} {o : Od} {a : Option Addr} {c : Nat} {f : Fa} {da : Option Addr} {dc : Nat} {ua : Option Addr} {uc : Nat} (h : Rd w p q t o a c f da dc ua uc u) : p < u.heap.size ∧ q < u.heap.size := ⟨(Array.getElem?_eq_some_iff.1 h.ob).1, (Array.getElem?_eq_some_iff.1 h.fb).1⟩
theorem brow_cast {W : World} {B n c : Nat} {a : Option Addr} {l : List Bool} (h : W.ownsRow B 4 1 (.slice a (([] : List Bool).length + n) c) ([] ++ l).length (([] ++ l).map Value.bool)) (hn : n = l.length := by rfl) : W.ownsRow B 4 1 (.slice a l.length c) l.length (l.map Value.bool) := by
  subst hn
  simpa using h
theorem brow_size {u w1 : World} {r : Option Nat} {o : Obj} (g : (u.alloc o).grownBy w1 r) : u.heap.size ≤ w1.heap.size := by
  have := g.size
  simp at this
  omega
theorem row_cap {W : World} {B n c m : Nat} {a : Option Addr} {xs : List Value} (h : W.ownsRow B 4 1 (.slice a n c) m xs) : c ≤ 9223372036854775807 := by
  rcases h.2 with ⟨e, _⟩ | ⟨g, cap, cur, e, _, _, _, hm, _⟩
  · cases e; omega
  · cases e
    unfold maxLen at hm
    omega
/-- A copy of the steps that are done, and one more. -/
theorem spoilt_row {w u w1 w2 : World} {q : Nat} {o : Od} {a : Option Addr} {c : Nat} {f : Fa} {da : Option Addr} {dc : Nat} {ua : Option Addr} {uc : Nat} {a1 a2 : Option Addr} {c1 c2 : Nat} (h : Rd w w.heap.size q 28 o a c f da dc ua uc u) (hq : w.heap.size < q) (ha : Sts w a o.steps) (hi : FaIn w f da dc ua uc)
    (g1 : (u.alloc (.cells #[] 4)).grownBy w1 (Value.slice (some ⟨u.heap.size, 0, none⟩) 0 0).ownBlock) (o1 : w1.ownsRow u.heap.size 4 1 (.slice a1 f.dn.length c1) f.dn.length (f.dn.map Value.bool))
    (g2 : (w1.alloc (.cells #[.bool false] 4)).grownBy w2 (Value.slice a1 f.dn.length c1).ownBlock) (o2 : w2.ownsRow u.heap.size 4 1 (.slice a2 (f.dn.length + 1) c2) (f.dn ++ [false]).length ((f.dn ++ [false]).map Value.bool)) (hc2 : c2 ≤ 9223372036854775807) :
    Rd w w.heap.size q 28 o a c f da dc ua uc w2 ∧ w2.frozen? ⟨q, 0, none⟩ = false ∧ Rd w w.heap.size q 28 o a c { f with dn := f.dn ++ [false] } a2 c2 ua uc (w2.setCell ⟨q, 0, none⟩ (.slice a2 (f.dn.length + 1) c2)) := by
  have b1 : Below u.heap.size u w1 := ((Below.refl _ _).alloc (Nat.le_refl _) _).trans ((Below.refl _ _).grown g1 (by simp) (fun k e => by simp [Value.ownBlock] at e; omega))
  have b2 : Below u.heap.size u w2 := (b1.alloc b1.size _).trans ((Below.refl _ _).grown g2 (b1.alloc b1.size _).size (fun k e => (o1.lt k e).1))
  have h2 := h.on b2
  have hB := h2.bel.setCell (p := ⟨q, 0, none⟩) (Nat.le_of_lt hq) (.slice a2 (f.dn.length + 1) c2)
  have hlt := (Array.getElem?_eq_some_iff.1 h.fb).1
  refine ⟨h2, frozen_of_row _ _ _ _ _ h2.fb, (Below.heap_setCell _ _ _ _ (show w.heap.size ≠ q by omega)).trans h2.ob, ?_, ha.below hB, ⟨?_, (hi.un.below hB), ?_, hi.ul, hc2, hi.um⟩, hB, h2.hl⟩
  · rw [heap_setCell_same _ _ _ _ _ _ h2.fb]
    simp
  · have hr : (w2.setCell ⟨q, 0, none⟩ (.slice a2 (f.dn.length + 1) c2)).ownsRow u.heap.size 4 1 (.slice a2 (f.dn ++ [false]).length c2) (f.dn ++ [false]).length ((f.dn ++ [false]).map Value.bool) := by
      rw [List.length_append, List.length_singleton] at o2 ⊢
      exact row_stays o2 (fun k cs hk _ => Below.heap_setCell _ _ _ _ (show k ≠ q by omega))
    exact row_bls hr
  · obtain ⟨a', c', e, hcc⟩ := row_slice (show w2.ownsRow u.heap.size 4 1 (.slice a2 (f.dn.length + 1) c2) (f.dn.length + 1) _ by rw [List.length_append, List.length_singleton] at o2; exact o2)
    cases e
    show (f.dn ++ [false]).length ≤ c2
    simpa using hcc

set_option maxRecDepth 100000 in
set_option maxHeartbeats 8000000 in
theorem sagaSpoilt_walk (o0 : Od) (a0 : Option Addr) (cap0 : Nat) (f1 : Fa) (da1 : Option Addr) (dc1 : Nat) (ua1 : Option Addr) (uc1 : Nat) (a2 : Int) (w : World) (w0 : OdIn w o0 a0 cap0) (w1c : FaCame w f1 da1 dc1 ua1 uc1) (_w2 : (Lit.int .i64 a2).wf = true) :
    Calls Try.prog 6 #[.agg #[.int .i64 o0.id, .int .i64 o0.item, .int .i64 o0.qty, .int .i64 o0.client, .int .i64 o0.price, .slice a0 o0.steps.length cap0], .agg #[.slice da1 f1.dn.length dc1, .slice ua1 f1.un.length uc1, .bool f1.asked, .bool f1.yes, .bool f1.turned, .bool f1.k0, .bool f1.k1, .bool f1.ship, .bool f1.d0, .bool f1.d1, .bool f1.acc], .int .i64 a2] w fun e w' => e = .returned (.bool true) ∧ Below w.heap.size w w' := by
  obtain ⟨w1, wn1⟩ := w1c
  have HNL := hide wn1
  clear wn1
  have HR := Rd.new (c := cap0) 28 w0.2.1 w0.1 w1
  have CL : ∀ u, Rd w w.heap.size (w.heap.size + 1) 28 o0 a0 cap0 f1 da1 dc1 ua1 uc1 u → Calls Try.prog 9 #[.agg #[.int .i64 o0.id, .int .i64 o0.item, .int .i64 o0.qty, .int .i64 o0.client, .int .i64 o0.price, .slice a0 o0.steps.length cap0], .agg #[.slice da1 f1.dn.length dc1, .slice ua1 f1.un.length uc1, .bool f1.asked, .bool f1.yes, .bool f1.turned, .bool f1.k0, .bool f1.k1, .bool f1.ship, .bool f1.d0, .bool f1.d1, .bool f1.acc]] u fun e w' => e = .returned (.bool (litB o0 f1)) ∧ Below u.heap.size u w' := fun u h => glight_any o0 a0 cap0 f1 da1 dc1 ua1 uc1 u
  have CM : ∀ u, Rd w w.heap.size (w.heap.size + 1) 28 o0 a0 cap0 f1 da1 dc1 ua1 uc1 u → Calls Try.prog 12 #[.agg #[.int .i64 o0.id, .int .i64 o0.item, .int .i64 o0.qty, .int .i64 o0.client, .int .i64 o0.price, .slice a0 o0.steps.length cap0], .agg #[.slice da1 f1.dn.length dc1, .slice ua1 f1.un.length uc1, .bool f1.asked, .bool f1.yes, .bool f1.turned, .bool f1.k0, .bool f1.k1, .bool f1.ship, .bool f1.d0, .bool f1.d1, .bool f1.acc]] u fun e w' => e = .returned (.bool (mayF o0 f1)) ∧ Below u.heap.size u w' := fun u h => smay_any o0 a0 cap0 f1 da1 dc1 ua1 uc1 u h.st h.hl h.fi
  have CS : ∀ u, Rd w w.heap.size (w.heap.size + 1) 28 o0 a0 cap0 f1 da1 dc1 ua1 uc1 u → Calls Try.prog 14 #[.agg #[.int .i64 o0.id, .int .i64 o0.item, .int .i64 o0.qty, .int .i64 o0.client, .int .i64 o0.price, .slice a0 o0.steps.length cap0], .agg #[.slice da1 f1.dn.length dc1, .slice ua1 f1.un.length uc1, .bool f1.asked, .bool f1.yes, .bool f1.turned, .bool f1.k0, .bool f1.k1, .bool f1.ship, .bool f1.d0, .bool f1.d1, .bool f1.acc]] u fun e w' => e = .returned (.int .i64 (stF o0 f1)) ∧ Below u.heap.size u w' := fun u h => sstate_any o0 a0 cap0 f1 da1 dc1 ua1 uc1 u h.st h.hl h.fi
  have CO : ∀ u, Rd w w.heap.size (w.heap.size + 1) 28 o0 a0 cap0 f1 da1 dc1 ua1 uc1 u → Calls Try.prog 16 #[.agg #[.int .i64 o0.id, .int .i64 o0.item, .int .i64 o0.qty, .int .i64 o0.client, .int .i64 o0.price, .slice a0 o0.steps.length cap0], .agg #[.slice da1 f1.dn.length dc1, .slice ua1 f1.un.length uc1, .bool f1.asked, .bool f1.yes, .bool f1.turned, .bool f1.k0, .bool f1.k1, .bool f1.ship, .bool f1.d0, .bool f1.d1, .bool f1.acc]] u fun e w' => e = .returned (.bool (overF o0 f1)) ∧ Below u.heap.size u w' := fun u h => sover_any o0 a0 cap0 f1 da1 dc1 ua1 uc1 u h.st h.hl h.fi
  have CN : ∀ u, Rd w w.heap.size (w.heap.size + 1) 28 o0 a0 cap0 f1 da1 dc1 ua1 uc1 u → Calls Try.prog 19 #[.agg #[.int .i64 o0.id, .int .i64 o0.item, .int .i64 o0.qty, .int .i64 o0.client, .int .i64 o0.price, .slice a0 o0.steps.length cap0], .agg #[.slice da1 f1.dn.length dc1, .slice ua1 f1.un.length uc1, .bool f1.asked, .bool f1.yes, .bool f1.turned, .bool f1.k0, .bool f1.k1, .bool f1.ship, .bool f1.d0, .bool f1.d1, .bool f1.acc]] u (OwnM u (nextF o0 f1)) := fun u h => snext_any o0 a0 cap0 f1 da1 dc1 ua1 uc1 u h.st h.hl h.fi
  have CA : ∀ u, Rd w w.heap.size (w.heap.size + 1) 28 o0 a0 cap0 f1 da1 dc1 ua1 uc1 u → Calls Try.prog 10 #[] u fun e w' => e = .returned (.bool true) ∧ Below u.heap.size u w' := fun u h => gawake_any u
  have HC := HR.cells; (try dsimp only at HC); obtain ⟨⟨d0, d1, d2, d3, d4, d5⟩, e0, e1, e2, e3, e4, e5, e6, e7, e8, e9, e10⟩ := HC
  have HI1 := hide w1
  cases hm : mayF o0 f1
  · rw [not_state hm] at CS
    rw [not_over hm] at CO
    rw [next_not hm] at CN
    rw [hm] at CM
    clear w0 w1 hm
    cases hl : litB o0 f1
    · rw [hl] at CL
      clear hl
      go_enter Try.func6, Try.ntmps6
      go_wp2_with (first
        | (go_at_call 9; (with_reducible refine ((CL _ HR)).mono ?_); rintro e u ⟨rfl, hb⟩; replace HR := HR.on hb; clear hb d0 d1 d2 d3 d4 d5 e0 e1 e2 e3 e4 e5 e6 e7 e8 e9 e10; have HC := HR.cells; (try dsimp only at HC); obtain ⟨⟨d0, d1, d2, d3, d4, d5⟩, e0, e1, e2, e3, e4, e5, e6, e7, e8, e9, e10⟩ := HC)
        | (go_at_call 12; (with_reducible refine ((CM _ HR)).mono ?_); rintro e u ⟨rfl, hb⟩; replace HR := HR.on hb; clear hb d0 d1 d2 d3 d4 d5 e0 e1 e2 e3 e4 e5 e6 e7 e8 e9 e10; have HC := HR.cells; (try dsimp only at HC); obtain ⟨⟨d0, d1, d2, d3, d4, d5⟩, e0, e1, e2, e3, e4, e5, e6, e7, e8, e9, e10⟩ := HC)
        | (go_at_call 14; (with_reducible refine ((CS _ HR)).mono ?_); rintro e u ⟨rfl, hb⟩; replace HR := HR.on hb; clear hb d0 d1 d2 d3 d4 d5 e0 e1 e2 e3 e4 e5 e6 e7 e8 e9 e10; have HC := HR.cells; (try dsimp only at HC); obtain ⟨⟨d0, d1, d2, d3, d4, d5⟩, e0, e1, e2, e3, e4, e5, e6, e7, e8, e9, e10⟩ := HC)
        | (go_at_call 16; (with_reducible refine ((CO _ HR)).mono ?_); rintro e u ⟨rfl, hb⟩; replace HR := HR.on hb; clear hb d0 d1 d2 d3 d4 d5 e0 e1 e2 e3 e4 e5 e6 e7 e8 e9 e10; have HC := HR.cells; (try dsimp only at HC); obtain ⟨⟨d0, d1, d2, d3, d4, d5⟩, e0, e1, e2, e3, e4, e5, e6, e7, e8, e9, e10⟩ := HC)
        | (go_at_call 19; (with_reducible refine ((CN _ HR)).mono ?_); rintro e u ⟨av, cv, rfl, -, -, hrow, hb⟩; have HM := hide (row_mgs hrow); replace HR := HR.on hb; clear hb hrow d0 d1 d2 d3 d4 d5 e0 e1 e2 e3 e4 e5 e6 e7 e8 e9 e10; have HC := HR.cells; (try dsimp only at HC); obtain ⟨⟨d0, d1, d2, d3, d4, d5⟩, e0, e1, e2, e3, e4, e5, e6, e7, e8, e9, e10⟩ := HC)
        | (go_at_call 10; (with_reducible refine ((CA _ HR)).mono ?_); rintro e u ⟨rfl, hb⟩; replace HR := HR.on hb; clear hb d0 d1 d2 d3 d4 d5 e0 e1 e2 e3 e4 e5 e6 e7 e8 e9 e10; have HC := HR.cells; (try dsimp only at HC); obtain ⟨⟨d0, d1, d2, d3, d4, d5⟩, e0, e1, e2, e3, e4, e5, e6, e7, e8, e9, e10⟩ := HC))
      go_ret
      exact ⟨rfl, HR.bel⟩
    · rw [hl] at CL
      clear hl
      go_enter Try.func6, Try.ntmps6
      go_wp2_with (first
        | (go_at_call 9; (with_reducible refine ((CL _ HR)).mono ?_); rintro e u ⟨rfl, hb⟩; replace HR := HR.on hb; clear hb d0 d1 d2 d3 d4 d5 e0 e1 e2 e3 e4 e5 e6 e7 e8 e9 e10; have HC := HR.cells; (try dsimp only at HC); obtain ⟨⟨d0, d1, d2, d3, d4, d5⟩, e0, e1, e2, e3, e4, e5, e6, e7, e8, e9, e10⟩ := HC)
        | (go_at_call 12; (with_reducible refine ((CM _ HR)).mono ?_); rintro e u ⟨rfl, hb⟩; replace HR := HR.on hb; clear hb d0 d1 d2 d3 d4 d5 e0 e1 e2 e3 e4 e5 e6 e7 e8 e9 e10; have HC := HR.cells; (try dsimp only at HC); obtain ⟨⟨d0, d1, d2, d3, d4, d5⟩, e0, e1, e2, e3, e4, e5, e6, e7, e8, e9, e10⟩ := HC)
        | (go_at_call 14; (with_reducible refine ((CS _ HR)).mono ?_); rintro e u ⟨rfl, hb⟩; replace HR := HR.on hb; clear hb d0 d1 d2 d3 d4 d5 e0 e1 e2 e3 e4 e5 e6 e7 e8 e9 e10; have HC := HR.cells; (try dsimp only at HC); obtain ⟨⟨d0, d1, d2, d3, d4, d5⟩, e0, e1, e2, e3, e4, e5, e6, e7, e8, e9, e10⟩ := HC)
        | (go_at_call 16; (with_reducible refine ((CO _ HR)).mono ?_); rintro e u ⟨rfl, hb⟩; replace HR := HR.on hb; clear hb d0 d1 d2 d3 d4 d5 e0 e1 e2 e3 e4 e5 e6 e7 e8 e9 e10; have HC := HR.cells; (try dsimp only at HC); obtain ⟨⟨d0, d1, d2, d3, d4, d5⟩, e0, e1, e2, e3, e4, e5, e6, e7, e8, e9, e10⟩ := HC)
        | (go_at_call 19; (with_reducible refine ((CN _ HR)).mono ?_); rintro e u ⟨av, cv, rfl, -, -, hrow, hb⟩; have HM := hide (row_mgs hrow); replace HR := HR.on hb; clear hb hrow d0 d1 d2 d3 d4 d5 e0 e1 e2 e3 e4 e5 e6 e7 e8 e9 e10; have HC := HR.cells; (try dsimp only at HC); obtain ⟨⟨d0, d1, d2, d3, d4, d5⟩, e0, e1, e2, e3, e4, e5, e6, e7, e8, e9, e10⟩ := HC)
        | (go_at_call 10; (with_reducible refine ((CA _ HR)).mono ?_); rintro e u ⟨rfl, hb⟩; replace HR := HR.on hb; clear hb d0 d1 d2 d3 d4 d5 e0 e1 e2 e3 e4 e5 e6 e7 e8 e9 e10; have HC := HR.cells; (try dsimp only at HC); obtain ⟨⟨d0, d1, d2, d3, d4, d5⟩, e0, e1, e2, e3, e4, e5, e6, e7, e8, e9, e10⟩ := HC))
      go_ret
      exact ⟨rfl, HR.bel⟩
  · rw [may_light hm] at CL
    rw [hm] at CM
    obtain ⟨r, hr, hr4⟩ := rem4 a2
    have HMM := hide hm
    have HA0 := hide w0.2.1
    have HDL : Hid (f1.dn.length ≤ 1000) := by show _ ≤ _; obtain ⟨h1, h2, -⟩ := mayF_parts hm; have := mayO_three h1; omega
    clear w0 w1 hm CS CO CN
    have w1' := HI1.out
    rcases hr4 with rfl | rfl | rfl | rfl
    · have CM2 := fun u (h : Rd w w.heap.size (w.heap.size + 1) 28 o0 a0 cap0 { f1 with yes := true, turned := true } da1 dc1 ua1 uc1 u) => smay_any o0 a0 cap0 { f1 with yes := true, turned := true } da1 dc1 ua1 uc1 u h.st h.hl h.fi
      rw [spoilt0] at CM2
      dsimp only at CM2
      go_enter Try.func6, Try.ntmps6
      go_wp2_with (first
        | (go_at_call 9; (with_reducible refine ((CL _ HR)).mono ?_); rintro e u ⟨rfl, hb⟩; replace HR := HR.on hb; clear hb d0 d1 d2 d3 d4 d5 e0 e1 e2 e3 e4 e5 e6 e7 e8 e9 e10; have HC := HR.cells; (try dsimp only at HC); obtain ⟨⟨d0, d1, d2, d3, d4, d5⟩, e0, e1, e2, e3, e4, e5, e6, e7, e8, e9, e10⟩ := HC; have hz := bound1 HR; obtain ⟨hz1, hz2⟩ := hz; have z0 := HR.frz 0; have z2 := HR.frz 2; have z3 := HR.frz 3; have z4 := HR.frz 4; have z7 := HR.frz 7)
        | (go_at_call 12; (with_reducible refine ((CM _ HR)).mono ?_); rintro e u ⟨rfl, hb⟩; replace HR := HR.on hb; clear hb d0 d1 d2 d3 d4 d5 e0 e1 e2 e3 e4 e5 e6 e7 e8 e9 e10; have HC := HR.cells; (try dsimp only at HC); obtain ⟨⟨d0, d1, d2, d3, d4, d5⟩, e0, e1, e2, e3, e4, e5, e6, e7, e8, e9, e10⟩ := HC; have hz := bound1 HR; obtain ⟨hz1, hz2⟩ := hz; have z0 := HR.frz 0; have z2 := HR.frz 2; have z3 := HR.frz 3; have z4 := HR.frz 4; have z7 := HR.frz 7))
      replace HR := (HR.st1 HA0.out { f1 with yes := true } (w1'.as rfl rfl) (by omega) (by omega) 3 true rfl).st1 HA0.out { f1 with yes := true, turned := true } (w1'.as rfl rfl) (by omega) (by omega) 4 true rfl
      (with_reducible refine (CM2 _ HR).mono ?_)
      rintro e u2 ⟨rfl, hb⟩
      replace HR := HR.on hb
      clear hb d0 d1 d2 d3 d4 d5 e0 e1 e2 e3 e4 e5 e6 e7 e8 e9 e10
      go_wp2_with (go_at_call 10; refine (gawake_any _).mono ?_; rintro e u3 ⟨rfl, hb⟩; replace HR := HR.on hb)
      go_ret
      exact ⟨rfl, HR.bel⟩
    · have CM2 := fun u (h : Rd w w.heap.size (w.heap.size + 1) 28 o0 a0 cap0 { f1 with yes := false, ship := true } da1 dc1 ua1 uc1 u) => smay_any o0 a0 cap0 { f1 with yes := false, ship := true } da1 dc1 ua1 uc1 u h.st h.hl h.fi
      rw [spoilt1] at CM2
      dsimp only at CM2
      go_enter Try.func6, Try.ntmps6
      go_wp2_with (first
        | (go_at_call 9; (with_reducible refine ((CL _ HR)).mono ?_); rintro e u ⟨rfl, hb⟩; replace HR := HR.on hb; clear hb d0 d1 d2 d3 d4 d5 e0 e1 e2 e3 e4 e5 e6 e7 e8 e9 e10; have HC := HR.cells; (try dsimp only at HC); obtain ⟨⟨d0, d1, d2, d3, d4, d5⟩, e0, e1, e2, e3, e4, e5, e6, e7, e8, e9, e10⟩ := HC; have hz := bound1 HR; obtain ⟨hz1, hz2⟩ := hz; have z0 := HR.frz 0; have z2 := HR.frz 2; have z3 := HR.frz 3; have z4 := HR.frz 4; have z7 := HR.frz 7)
        | (go_at_call 12; (with_reducible refine ((CM _ HR)).mono ?_); rintro e u ⟨rfl, hb⟩; replace HR := HR.on hb; clear hb d0 d1 d2 d3 d4 d5 e0 e1 e2 e3 e4 e5 e6 e7 e8 e9 e10; have HC := HR.cells; (try dsimp only at HC); obtain ⟨⟨d0, d1, d2, d3, d4, d5⟩, e0, e1, e2, e3, e4, e5, e6, e7, e8, e9, e10⟩ := HC; have hz := bound1 HR; obtain ⟨hz1, hz2⟩ := hz; have z0 := HR.frz 0; have z2 := HR.frz 2; have z3 := HR.frz 3; have z4 := HR.frz 4; have z7 := HR.frz 7))
      replace HR := (HR.st1 HA0.out { f1 with yes := false } (w1'.as rfl rfl) (by omega) (by omega) 3 false rfl).st1 HA0.out { f1 with yes := false, ship := true } (w1'.as rfl rfl) (by omega) (by omega) 7 true rfl
      (with_reducible refine (CM2 _ HR).mono ?_)
      rintro e u2 ⟨rfl, hb⟩
      replace HR := HR.on hb
      clear hb d0 d1 d2 d3 d4 d5 e0 e1 e2 e3 e4 e5 e6 e7 e8 e9 e10
      go_wp2_with (go_at_call 10; refine (gawake_any _).mono ?_; rintro e u3 ⟨rfl, hb⟩; replace HR := HR.on hb)
      go_ret
      exact ⟨rfl, HR.bel⟩
    · have CM2 := fun u a' c' (h : Rd w w.heap.size (w.heap.size + 1) 28 o0 a0 cap0 { f1 with dn := f1.dn ++ [false] } a' c' ua1 uc1 u) => smay_any o0 a0 cap0 { f1 with dn := f1.dn ++ [false] } a' c' ua1 uc1 u h.st h.hl h.fi
      rw [spoilt2 o0 f1 HMM.out] at CM2
      dsimp only at CM2
      rw [List.length_append, List.length_singleton] at CM2
      have hdl := HDL.out
      go_enter Try.func6, Try.ntmps6
      go_wp2_with (first
        | (go_at_call 9; (with_reducible refine ((CL _ HR)).mono ?_); rintro e u ⟨rfl, hb⟩; replace HR := HR.on hb; clear hb d0 d1 d2 d3 d4 d5 e0 e1 e2 e3 e4 e5 e6 e7 e8 e9 e10; have HC := HR.cells; (try dsimp only at HC); obtain ⟨⟨d0, d1, d2, d3, d4, d5⟩, e0, e1, e2, e3, e4, e5, e6, e7, e8, e9, e10⟩ := HC; have hz := bound1 HR; obtain ⟨hz1, hz2⟩ := hz; have z0 := HR.frz 0; have z2 := HR.frz 2; have z3 := HR.frz 3; have z4 := HR.frz 4; have z7 := HR.frz 7)
        | (go_at_call 12; (with_reducible refine ((CM _ HR)).mono ?_); rintro e u ⟨rfl, hb⟩; replace HR := HR.on hb; clear hb d0 d1 d2 d3 d4 d5 e0 e1 e2 e3 e4 e5 e6 e7 e8 e9 e10; have HC := HR.cells; (try dsimp only at HC); obtain ⟨⟨d0, d1, d2, d3, d4, d5⟩, e0, e1, e2, e3, e4, e5, e6, e7, e8, e9, e10⟩ := HC; have hz := bound1 HR; obtain ⟨hz1, hz2⟩ := hz; have z0 := HR.frz 0; have z2 := HR.frz 2; have z3 := HR.frz 3; have z4 := HR.frz 4; have z7 := HR.frz 7)
        | (at_builtin; refine append_bls rfl _ _ rfl u.heap.size _ [] rfl (brow_fresh u u.heap.size (Nat.le_refl _)) da1 f1.dn dc1 rfl HNL.out (HR.fi.dn.below ((Below.refl _ _).alloc (Nat.le_refl _) _)) (by simp; omega) (by simp) ?_; intro a3 c3 w3 o3 g3; have O3 := hide (brow_cast o3); have G3 := hide g3; have B3 := hide (brow_size g3); clear o3 g3)
        | (at_builtin; refine append_bls rfl _ _ rfl u.heap.size (.slice a3 f1.dn.length c3) f1.dn (by simp [Act.eval]) (O3.out.alloc _) (some ⟨w3.heap.size, 0, none⟩) [false] 1 rfl (fun h => by cases h) (bls_one w3 false) (by simp; omega) (by have := B3.out; simp; omega) ?_; intro a4 c4 w4 o4 g4; have G4 := hide g4; have O4 := hide o4; obtain ⟨x1, x2, x3⟩ := spoilt_row HR (by omega) HA0.out HI1.out G3.out O3.out G4.out O4.out (row_cap O4.out); have X3 := hide x3; replace HR := x1; clear o4 g4 x3 x1 d0 d1 d2 d3 d4 d5 e0 e1 e2 e3 e4 e5 e6 e7 e8 e9 e10; have HC := HR.cells; (try dsimp only at HC); obtain ⟨⟨d0, d1, d2, d3, d4, d5⟩, e0, e1, e2, e3, e4, e5, e6, e7, e8, e9, e10⟩ := HC))
      replace HR := X3.out
      (with_reducible refine (CM2 _ _ _ HR).mono ?_)
      rintro e u2 ⟨rfl, hb⟩
      have HR2 := X3.out.on hb
      clear hb d0 d1 d2 d3 d4 d5 e0 e1 e2 e3 e4 e5 e6 e7 e8 e9 e10
      go_wp2_with (go_at_call 10; refine (gawake_any _).mono ?_; rintro e u3 ⟨rfl, hb⟩; replace HR2 := HR2.on hb)
      go_ret
      exact ⟨rfl, HR2.bel⟩
    · have CM2 := fun u (h : Rd w w.heap.size (w.heap.size + 1) 28 o0 a0 cap0 { f1 with asked := false, turned := false, yes := true } da1 dc1 ua1 uc1 u) => smay_any o0 a0 cap0 { f1 with asked := false, turned := false, yes := true } da1 dc1 ua1 uc1 u h.st h.hl h.fi
      rw [spoilt3] at CM2
      dsimp only at CM2
      go_enter Try.func6, Try.ntmps6
      go_wp2_with (first
        | (go_at_call 9; (with_reducible refine ((CL _ HR)).mono ?_); rintro e u ⟨rfl, hb⟩; replace HR := HR.on hb; clear hb d0 d1 d2 d3 d4 d5 e0 e1 e2 e3 e4 e5 e6 e7 e8 e9 e10; have HC := HR.cells; (try dsimp only at HC); obtain ⟨⟨d0, d1, d2, d3, d4, d5⟩, e0, e1, e2, e3, e4, e5, e6, e7, e8, e9, e10⟩ := HC; have hz := bound1 HR; obtain ⟨hz1, hz2⟩ := hz; have z0 := HR.frz 0; have z2 := HR.frz 2; have z3 := HR.frz 3; have z4 := HR.frz 4; have z7 := HR.frz 7)
        | (go_at_call 12; (with_reducible refine ((CM _ HR)).mono ?_); rintro e u ⟨rfl, hb⟩; replace HR := HR.on hb; clear hb d0 d1 d2 d3 d4 d5 e0 e1 e2 e3 e4 e5 e6 e7 e8 e9 e10; have HC := HR.cells; (try dsimp only at HC); obtain ⟨⟨d0, d1, d2, d3, d4, d5⟩, e0, e1, e2, e3, e4, e5, e6, e7, e8, e9, e10⟩ := HC; have hz := bound1 HR; obtain ⟨hz1, hz2⟩ := hz; have z0 := HR.frz 0; have z2 := HR.frz 2; have z3 := HR.frz 3; have z4 := HR.frz 4; have z7 := HR.frz 7))
      replace HR := ((HR.st1 HA0.out { f1 with asked := false } (w1'.as rfl rfl) (by omega) (by omega) 2 false rfl).st1 HA0.out { f1 with asked := false, turned := false } (w1'.as rfl rfl) (by omega) (by omega) 4 false rfl).st1 HA0.out { f1 with asked := false, turned := false, yes := true } (w1'.as rfl rfl) (by omega) (by omega) 3 true rfl
      (with_reducible refine (CM2 _ HR).mono ?_)
      rintro e u2 ⟨rfl, hb⟩
      replace HR := HR.on hb
      clear hb d0 d1 d2 d3 d4 d5 e0 e1 e2 e3 e4 e5 e6 e7 e8 e9 e10
      go_wp2_with (go_at_call 10; refine (gawake_any _).mono ?_; rintro e u3 ⟨rfl, hb⟩; replace HR := HR.on hb)
      go_ret
      exact ⟨rfl, HR.bel⟩
end Go.Proofs.Ytinbmnefdhkdfaa
