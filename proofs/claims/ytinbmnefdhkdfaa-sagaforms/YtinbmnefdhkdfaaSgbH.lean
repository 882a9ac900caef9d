/-
  Contracts: package saga's Next.
-/
import Derived.Test.YtinbmnefdhkdfaaSgbG
namespace Go.Proofs.Ytinbmnefdhkdfaa
open Go.ChangeShapes Go.WideShapes Go.ChangeAt Go.RowKit

theorem OwnM.onto {w u w' : World} {L : List Mg} {e : Ending} (h : OwnM u L e w') (hb : Below w.heap.size w u) : OwnM w L e w' := by
  obtain ⟨a, c, h1, h2, h3, h4, h5⟩ := h
  refine ⟨a, c, h1, h2, h3, ⟨h4.1, ?_⟩, bel_on' hb h5⟩
  rcases h4.2 with h | ⟨g, cap, cur, e1, e2, e3⟩
  · exact .inl h
  · exact .inr ⟨g, cap, cur, e1, Nat.le_trans hb.size e2, e3⟩
theorem OwnM.nil {w w' : World} (hb : Below w.heap.size w w') : OwnM w [] (.returned (.slice none 0 0)) w' :=
  ⟨none, 0, rfl, Nat.le_refl _, fun _ => ⟨rfl, rfl⟩, row_nil _ _ _ _, hb⟩
theorem mayF_parts {o : Od} {f : Fa} (h : mayF o f = true) : mayO o = true ∧ f.dn.length = o.steps.length ∧ f.un.length = o.steps.length ∧ decF f = true ∧ donF f = true ∧ undF f = true := by
  unfold mayF at h
  simp only [Bool.and_eq_true, decide_eq_true_eq] at h
  exact ⟨h.1.1.1.1.1, h.1.1.1.1.2, h.1.1.1.2, h.1.1.2, h.1.2, h.2⟩

set_option maxRecDepth 100000 in
set_option maxHeartbeats 4000000 in
theorem snext_any (o : Od) (a : Option Addr) (c : Nat) (f : Fa) (da : Option Addr) (dc : Nat) (ua : Option Addr) (uc : Nat) (w : World) (ha : Sts w a o.steps) (hl : o.steps.length ≤ 9223372036854775807) (hi : FaIn w f da dc ua uc) :
    Calls Try.prog 19 #[.agg #[.int .i64 o.id, .int .i64 o.item, .int .i64 o.qty, .int .i64 o.client, .int .i64 o.price, .slice a o.steps.length c], .agg #[.slice da f.dn.length dc, .slice ua f.un.length uc, .bool f.asked, .bool f.yes, .bool f.turned, .bool f.k0, .bool f.k1, .bool f.ship, .bool f.d0, .bool f.d1, .bool f.acc]] w (OwnM w (nextF o f)) := by
  have HR := Rd.new (c := c) 28 ha hl hi
  have C1 : ∀ u, Rd w w.heap.size (w.heap.size + 1) 28 o a c f da dc ua uc u → Calls Try.prog 12 #[.agg #[.int .i64 o.id, .int .i64 o.item, .int .i64 o.qty, .int .i64 o.client, .int .i64 o.price, .slice a o.steps.length c], .agg #[.slice da f.dn.length dc, .slice ua f.un.length uc, .bool f.asked, .bool f.yes, .bool f.turned, .bool f.k0, .bool f.k1, .bool f.ship, .bool f.d0, .bool f.d1, .bool f.acc]] u fun e w' => e = .returned (.bool (mayF o f)) ∧ Below u.heap.size u w' := fun u h => smay_any o a c f da dc ua uc u h.st h.hl h.fi
  obtain ⟨⟨d0, d1, d2, d3, d4, d5⟩, e0, e1, e2, e3, e4, e5, e6, e7, e8, e9, e10⟩ := HR.cells
  unfold nextF
  clear ha hl hi
  cases p1 : mayF o f
  · rw [p1] at C1
    rw [if_pos rfl]
    go_enter Try.func19, Try.ntmps19
    go_wp2_with (go_at_call 12; with_reducible refine ((C1 _ HR)).mono ?_; rintro e u ⟨rfl, hb⟩; replace HR := HR.on hb; clear hb d0 d1 d2 d3 d4 d5 e0 e1 e2 e3 e4 e5 e6 e7 e8 e9 e10; obtain ⟨⟨d0, d1, d2, d3, d4, d5⟩, e0, e1, e2, e3, e4, e5, e6, e7, e8, e9, e10⟩ := HR.cells)
    go_ret
    exact OwnM.nil HR.bel
  rw [p1] at C1
  rw [if_neg (by simp)]
  obtain ⟨m1, m2, m3, -, -, -⟩ := mayF_parts p1
  have C2 : ∀ u, Rd w w.heap.size (w.heap.size + 1) 28 o a c f da dc ua uc u → Calls Try.prog 31 #[.agg #[.int .i64 o.id, .int .i64 o.item, .int .i64 o.qty, .int .i64 o.client, .int .i64 o.price, .slice a o.steps.length c], .agg #[.slice da f.dn.length dc, .slice ua f.un.length uc, .bool f.asked, .bool f.yes, .bool f.turned, .bool f.k0, .bool f.k1, .bool f.ship, .bool f.d0, .bool f.d1, .bool f.acc]] u (OwnM u (runS (bckS o f) (backL o) [])) := fun u h => sback_any o a c f da dc ua uc u h.st h.hl h.fi m1 m2 m3
  have C3 : ∀ u, Rd w w.heap.size (w.heap.size + 1) 28 o a c f da dc ua uc u → Calls Try.prog 32 #[.agg #[.int .i64 o.id, .int .i64 o.item, .int .i64 o.qty, .int .i64 o.client, .int .i64 o.price, .slice a o.steps.length c], .agg #[.slice da f.dn.length dc, .slice ua f.un.length uc, .bool f.asked, .bool f.yes, .bool f.turned, .bool f.k0, .bool f.k1, .bool f.ship, .bool f.d0, .bool f.d1, .bool f.acc]] u (OwnM u (runS (fwdS o f) (planL o) [])) := fun u h => forward_any o a c f da dc ua uc u h.st h.hl h.fi m1 m2 m3
  clear m1 m2 m3
  obtain ⟨NF, hNF⟩ : ∃ N, runS (fwdS o f) (planL o) [] = N := ⟨_, rfl⟩
  obtain ⟨NB, hNB⟩ : ∃ N, runS (bckS o f) (backL o) [] = N := ⟨_, rfl⟩
  rw [hNF] at C3 ⊢
  rw [hNB] at C2 ⊢
  clear hNF hNB p1 d0 d1 d2 d3 d4 d5 e0 e1 e2 e3 e4 e5 e6 e7 e8 e9 e10
  obtain ⟨dn, un, asked, yes, turned, k0, k1, ship, g0, g1, acc⟩ := f
  dsimp only at C1 C2 C3 ⊢
  have HC := HR.cells; dsimp only at HC; obtain ⟨⟨d0, d1, d2, d3, d4, d5⟩, e0, e1, e2, e3, e4, e5, e6, e7, e8, e9, e10⟩ := HC
  cases turned
  · rw [if_neg (by simp)]
    clear C2
    go_enter Try.func19, Try.ntmps19
    go_wp2_with (first
      | (go_at_call 12; with_reducible refine ((C1 _ HR)).mono ?_; rintro e u ⟨rfl, hb⟩; replace HR := HR.on hb; clear hb d0 d1 d2 d3 d4 d5 e0 e1 e2 e3 e4 e5 e6 e7 e8 e9 e10; have HC := HR.cells; dsimp only at HC; obtain ⟨⟨d0, d1, d2, d3, d4, d5⟩, e0, e1, e2, e3, e4, e5, e6, e7, e8, e9, e10⟩ := HC)
      | (go_at_call 32; (with_reducible refine ((C3 _ HR)).mono ?_); intro e u2 h; have HO := hide (h.onto HR.bel); clear h; obtain ⟨a2, c2, rfl, h2⟩ := HO.out))
    go_ret
    exact HO.out
  · rw [if_pos rfl]
    clear C3
    go_enter Try.func19, Try.ntmps19
    go_wp2_with (first
      | (go_at_call 12; with_reducible refine ((C1 _ HR)).mono ?_; rintro e u ⟨rfl, hb⟩; replace HR := HR.on hb; clear hb d0 d1 d2 d3 d4 d5 e0 e1 e2 e3 e4 e5 e6 e7 e8 e9 e10; have HC := HR.cells; dsimp only at HC; obtain ⟨⟨d0, d1, d2, d3, d4, d5⟩, e0, e1, e2, e3, e4, e5, e6, e7, e8, e9, e10⟩ := HC)
      | (go_at_call 31; (with_reducible refine ((C2 _ HR)).mono ?_); intro e u2 h; have HO := hide (h.onto HR.bel); clear h; obtain ⟨a2, c2, rfl, h2⟩ := HO.out))
    go_ret
    exact HO.out
end Go.Proofs.Ytinbmnefdhkdfaa
