/-
  What a loop of package saga has, some of the plan having come: the boxes, the row of what is needed.
-/
import Derived.Test.YtinbmnefdhkdfaaSgbA
namespace Go.Proofs.Ytinbmnefdhkdfaa
open Go.ChangeShapes Go.WideShapes Go.ChangeAt Go.RowKit Go.Shelf

theorem cells_stay {W W' : World} {row : Option Nat} {X : Nat} (hg : W.grownBy W' row) (hr : ∀ r, row = some r → X ≤ r ∧ ∃ o : Obj, W.heap[r]? = some o ∧ o.isCells = false) {k : Nat} {cs : Array Value} {t : TypeId} {f : Nat × Nat} (h : W.heap[k]? = some (.cells cs t f)) : W'.heap[k]? = W.heap[k]? :=
  hg.block k (Array.getElem?_eq_some_iff.1 h).1 (fun e => by
    obtain ⟨_, o, ho, hc⟩ := hr k e.symm
    rw [h] at ho
    cases ho
    cases hc)
/-- The boxes. -/
structure TF (w : World) (N1 : Nat) (o : Od) (a : Option Addr) (c : Nat) (f : Fa) (da : Option Addr) (dc : Nat) (ua : Option Addr) (uc : Nat) (W : World) : Prop where
  ob : W.heap[w.heap.size]? = some (.cells #[.int .i64 o.id, .int .i64 o.item, .int .i64 o.qty, .int .i64 o.client, .int .i64 o.price, .slice a o.steps.length c] 24 (0, 0))
  fb : W.heap[w.heap.size + 1]? = some (.cells #[.slice da f.dn.length dc, .slice ua f.un.length uc, .bool f.asked, .bool f.yes, .bool f.turned, .bool f.k0, .bool f.k1, .bool f.ship, .bool f.d0, .bool f.d1, .bool f.acc] 28 (0, 0))
  bel : Below w.heap.size w W
  sz : N1 ≤ W.heap.size
  n1 : w.heap.size + 1 + 1 < N1
/-- The row of what is needed, v in its box, reads as acc. -/
def Nd (w : World) (N1 : Nat) (v : Value) (acc : List Mg) (W : World) : Prop := Boxed W (w.heap.size + 1 + 1) 37 v ∧ W.ownsRow N1 43 7 v acc.length (mgCells acc)
/-- What the loop has, pre having come. -/
def TI (w : World) (N1 : Nat) (o : Od) (a : Option Addr) (c : Nat) (f : Fa) (da : Option Addr) (dc : Nat) (ua : Option Addr) (uc : Nat) (g : Int × Int → List Mg × Bool) (L pre : List (Int × Int)) (W : World) : Prop :=
  TF w N1 o a c f da dc ua uc W ∧ ∃ v acc, Nd w N1 v acc W ∧ runS g L [] = runS g (L.drop pre.length) acc ∧ acc.length ≤ 2 * pre.length
/-- What it has when it stops. -/
def TX (w : World) (N1 : Nat) (o : Od) (a : Option Addr) (c : Nat) (f : Fa) (da : Option Addr) (dc : Nat) (ua : Option Addr) (uc : Nat) (g : Int × Int → List Mg × Bool) (L : List (Int × Int)) (W : World) : Prop :=
  TF w N1 o a c f da dc ua uc W ∧ ∃ v, Nd w N1 v (runS g L []) W
section
variable {w : World} {N1 : Nat} {o : Od} {a : Option Addr} {c : Nat} {f : Fa} {da : Option Addr} {dc : Nat} {ua : Option Addr} {uc : Nat} {g : Int × Int → List Mg × Bool} {L : List (Int × Int)}

theorem TF.own {β : Type} {X : Nat} (hX : w.heap.size ≤ X) : OwnFrom X (fun (_ : β) W => TF w N1 o a c f da dc ua uc W) := fun _ _ _ _ hs hg hr =>
  ⟨(cells_stay hg hr hs.ob).trans hs.ob, (cells_stay hg hr hs.fb).trans hs.fb, hs.bel.grown hg hs.bel.size (fun k e => Nat.le_trans hX (hr k e).1), Nat.le_trans hs.sz hg.size, hs.n1⟩
theorem Nd.own {W W' : World} {row : Option Nat} {X : Nat} {v : Value} {acc : List Mg} (h : Nd w N1 v acc W) (hg : W.grownBy W' row) (hr : ∀ r, row = some r → X ≤ r ∧ ∃ o : Obj, W.heap[r]? = some o ∧ o.isCells = false) : Nd w N1 v acc W' :=
  ⟨(cells_stay hg hr h.1).trans h.1, row_stays h.2 (fun _ _ _ hc => cells_stay hg hr hc)⟩
theorem TI.own {X : Nat} (hX : w.heap.size ≤ X) : OwnFrom X (TI w N1 o a c f da dc ua uc g L) := fun pre W W' row hs hg hr => by
  obtain ⟨h1, v, acc, h2, h3⟩ := hs
  exact ⟨TF.own (β := Unit) hX () W W' row h1 hg hr, v, acc, h2.own hg hr, h3⟩
theorem TX.own {β : Type} {X : Nat} (hX : w.heap.size ≤ X) : OwnFrom X (fun (_ : β) W => TX w N1 o a c f da dc ua uc g L W) := fun _ W W' row hs hg hr => by
  obtain ⟨h1, v, h2⟩ := hs
  exact ⟨TF.own (β := Unit) hX () W W' row h1 hg hr, v, h2.own hg hr⟩
theorem drop_next {pre : List (Int × Int)} {x : Int × Int} (h : pre ++ [x] <+: L) : L.drop pre.length = x :: L.drop (pre.length + 1) := by
  obtain ⟨r, rfl⟩ := h
  simp
/-- Nothing of x is needed. -/
theorem TI.next {pre : List (Int × Int)} {x : Int × Int} {W : World} (h : TI w N1 o a c f da dc ua uc g L pre W) (hp : pre ++ [x] <+: L) (hx : g x = ([], false)) : TI w N1 o a c f da dc ua uc g L (pre ++ [x]) W := by
  obtain ⟨h1, v, acc, h2, h3, h4⟩ := h
  refine ⟨h1, v, acc, h2, ?_, by simp; omega⟩
  rw [h3, drop_next hp, runS, hx]
  simp
theorem TI.more {pre : List (Int × Int)} {x : Int × Int} {W : World} {v : Value} {acc m : List Mg} (h1 : TF w N1 o a c f da dc ua uc W) (h2 : Nd w N1 v (acc ++ m) W) (h3 : runS g L [] = runS g (L.drop pre.length) acc) (h4 : acc.length ≤ 2 * pre.length) (hp : pre ++ [x] <+: L) (hx : g x = (m, false)) (hm : m.length ≤ 2) : TI w N1 o a c f da dc ua uc g L (pre ++ [x]) W := by
  refine ⟨h1, v, acc ++ m, h2, ?_, by simp; omega⟩
  rw [h3, drop_next hp, runS, hx]
  simp
theorem TX.more {pre : List (Int × Int)} {x : Int × Int} {W : World} {v : Value} {acc m : List Mg} (h1 : TF w N1 o a c f da dc ua uc W) (h2 : Nd w N1 v (acc ++ m) W) (h3 : runS g L [] = runS g (L.drop pre.length) acc) (hp : pre ++ [x] <+: L) (hx : g x = (m, true)) : TX w N1 o a c f da dc ua uc g L W := by
  refine ⟨h1, v, ?_⟩
  rw [h3, drop_next hp, runS, hx]
  exact h2
theorem TI.end {W : World} (h : TI w N1 o a c f da dc ua uc g L L W) : TX w N1 o a c f da dc ua uc g L W := by
  obtain ⟨h1, v, acc, h2, h3, _⟩ := h
  refine ⟨h1, v, ?_⟩
  rw [h3, List.drop_length, runS]
  exact h2
/-- Within a round that began at W: the boxes; the act at Bx. -/
structure Rr (w : World) (N1 : Nat) (o : Od) (a : Option Addr) (c : Nat) (f : Fa) (da : Option Addr) (dc : Nat) (ua : Option Addr) (uc : Nat) (W : World) (Bx : Nat) (x : Int × Int) (u : World) : Prop where
  tf : TF w N1 o a c f da dc ua uc u
  ab : u.heap[Bx]? = some (.cells #[.int .i64 x.1, .int .i64 x.2] 60 (0, 0))
  kp : Kept 43 (fun k => k = w.heap.size + 1 + 1) W u
variable {W : World} {Bx : Nat} {x : Int × Int} {u u' : World}
theorem TF.on (h : TF w N1 o a c f da dc ua uc u) (hb : Below u.heap.size u u') : TF w N1 o a c f da dc ua uc u' :=
  ⟨keepB h.ob hb, keepB h.fb hb, bel_on' h.bel hb, Nat.le_trans h.sz hb.size, h.n1⟩
theorem Rr.on (h : Rr w N1 o a c f da dc ua uc W Bx x u) (hb : Below u.heap.size u u') : Rr w N1 o a c f da dc ua uc W Bx x u' :=
  ⟨h.tf.on hb, keepB h.ab hb, h.kp.trans (Kept.of_below hb)⟩
theorem Rr.drew (h : Rr w N1 o a c f da dc ua uc W Bx x u) : Rr w N1 o a c f da dc ua uc W Bx x u.drew :=
  ⟨⟨h.tf.ob, h.tf.fb, h.tf.bel.drew, h.tf.sz, h.tf.n1⟩, h.ab, h.kp.trans (Kept.of_below (Below.refl _ _).drew)⟩
theorem Nd.on {v : Value} {acc : List Mg} (h : Nd w N1 v acc u) (hb : Below u.heap.size u u') : Nd w N1 v acc u' := ⟨keepB h.1 hb, own_on h.2 hb⟩
/-- Behind an append. -/
theorem Rr.grown {v : Value} {acc : List Mg} (h : Rr w N1 o a c f da dc ua uc W Bx x u) (hn : Nd w N1 v acc u) (hg : u.grownBy u' v.ownBlock) : Rr w N1 o a c f da dc ua uc W Bx x u' ∧ Boxed u' (w.heap.size + 1 + 1) 37 v := by
  have hlt := fun k e => (hn.2.lt k e).1
  have hN : w.heap.size ≤ N1 := by have := h.tf.n1; omega
  refine ⟨⟨⟨grown_off hn.2 hg h.tf.ob (by decide), grown_off hn.2 hg h.tf.fb (by decide), h.tf.bel.trans ((Below.refl _ _).grown hg h.tf.bel.size (fun k e => Nat.le_trans hN (hlt k e))), Nat.le_trans h.tf.sz hg.size, h.tf.n1⟩, grown_off hn.2 hg h.ab (by decide), h.kp.trans ⟨hg.os, hg.tape, hg.output, hg.size, fun k ob hk hx hc => ?_⟩⟩, grown_off hn.2 hg hn.1 (by decide)⟩
  refine (hg.block k (Array.getElem?_eq_some_iff.1 hk).1 (fun e => ?_)).trans hk
  rcases hn.2.2 with ⟨rfl, _⟩ | ⟨g', cap, cur, rfl, _, hcc, _⟩
  · simp [Value.ownBlock] at e
  · simp [Value.ownBlock] at e
    subst e
    rw [hk] at hcc
    cases hcc
    exact hc _ _ rfl
/-- Behind the store. -/
theorem Rr.put {v v' : Value} {acc : List Mg} (h : Rr w N1 o a c f da dc ua uc W Bx x u) (hbx : Boxed u (w.heap.size + 1 + 1) 37 v) (hrow : u.ownsRow N1 43 7 v' acc.length (mgCells acc)) :
    Rr w N1 o a c f da dc ua uc W Bx x (u.setCell ⟨w.heap.size + 1 + 1, 0, none⟩ v') ∧ Nd w N1 v' acc (u.setCell ⟨w.heap.size + 1 + 1, 0, none⟩ v') := by
  have ne : ∀ {k : Nat} {cs : Array Value} {t : TypeId}, u.heap[k]? = some (.cells cs t (0, 0)) → t ≠ 37 → (u.setCell ⟨w.heap.size + 1 + 1, 0, none⟩ v').heap[k]? = some (.cells cs t (0, 0)) := fun {k cs t} hk ht => by
    refine (Below.heap_setCell _ _ _ _ (fun e => ?_)).trans hk
    subst e
    rw [show u.heap[w.heap.size + 1 + 1]? = _ from hbx] at hk
    simp only [Option.some.injEq, Obj.cells.injEq] at hk
    exact ht hk.2.1.symm
  refine ⟨⟨⟨ne h.tf.ob (by decide), ne h.tf.fb (by decide), h.tf.bel.setCell (p := ⟨w.heap.size + 1 + 1, 0, none⟩) (by show _ ≤ w.heap.size + 1 + 1; omega) _, by have := h.tf.sz; simpa using this, h.tf.n1⟩, ne h.ab (by decide), h.kp.trans ⟨rfl, rfl, rfl, by simp, fun k ob hk hx _ => ?_⟩⟩, hbx.set v', ?_⟩
  · exact (Below.heap_setCell _ _ _ _ (show k ≠ w.heap.size + 1 + 1 from hx)).trans hk
  · exact row_stays hrow (fun k cs _ hc => (ne hc (by decide)).trans hc.symm)
/-- What is handed back at the end. -/
theorem TX.back (h : TX w N1 o a c f da dc ua uc g L W) {D : Nat} (hD : N1 ≤ D) (hK : W.heap[D]? = some (.deferred (some []))) : ∃ av cv, W.cell? ⟨w.heap.size + 1 + 1, 0, none⟩ = some (.slice av (runS g L []).length cv) ∧ OwnM w (runS g L []) (.returned (.slice av (runS g L []).length cv)) (W.putObj D (.deferred none)) := by
  obtain ⟨h1, v, h2, h3⟩ := h
  obtain ⟨av, cv, rfl, hc⟩ := row_slice h3
  refine ⟨av, cv, h2.cell, av, cv, rfl, hc, fun e => ?_, ?_, h1.bel.trans ⟨rfl, rfl, rfl, by simp, fun k hk => World.putObj_heap_other (by have := h1.n1; omega)⟩⟩
  · subst e
    have := row_none h3
    exact ⟨List.eq_nil_of_length_eq_zero this.1, this.2⟩
  · have h8 := ownsRow_putObj h3 (.deferred none) hK rfl
    refine ⟨h8.1, ?_⟩
    rcases h8.2 with h | ⟨g', cap, cur, e1, e2, e3⟩
    · exact .inl h
    · exact .inr ⟨g', cap, cur, e1, by have := h1.n1; omega, e3⟩
end
end Go.Proofs.Ytinbmnefdhkdfaa
