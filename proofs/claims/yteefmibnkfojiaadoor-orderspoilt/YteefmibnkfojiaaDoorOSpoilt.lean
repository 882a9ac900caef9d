/-
  OrderSpoilt: with one number that may not be, with a service twice, an order may not be.
-/
import Derived.Test.YteefmibnkfojiaaDoorOrdA
import Derived.Test.YteefmibnkfojiaaDoorLater
import Derived.Deep.CutBlock
import Derived.Deep.RegionLaw
namespace Go.Proofs.YteefmibnkfojiaaDoor
open Go.ChangeShapes Go.WideShapes Go.ChangeAt Go.RowKit

theorem step_append_st1 {ops : Array Oper} {o : Oper} {a : Act} {w : World} {K : Act → World → Prop} {Q : Exit → Act → World → Prop} {E : Prop} (hgd : o.guard = none) (s x : Operand)
    (ho : o.op = .call { callee := .builtin .append, args := #[s, x], argTypes := #[22, 22] })
    (base : Nat) (v : Value) (L : List (Int × Int)) (hs : a.eval s = v) (hown : w.ownsRow base 37 2 v L.length (stCells L)) (ad : Addr) (y : Int × Int) (c : Nat) (hx : a.eval x = .slice (some ad) 1 c)
    (hm : Sts w (some ad) [y]) (hb : L.length + 1 ≤ 1000000) (hbase : base ≤ w.heap.size)
    (h : ∀ a' c' w', w'.ownsRow base 37 2 (.slice a' (L.length + 1) c') (L ++ [y]).length (stCells (L ++ [y])) → w.grownBy w' v.ownBlock → K (a.put o.dst (.slice a' (L.length + 1) c')) w') :
    if Region.wanted o (yielded ops a.tmps) = true then Oper.wp Tryd.prog o a w K Q else E := by
  have hw : Region.wanted o (yielded ops a.tmps) = true := by simp [Region.wanted, hgd]
  rw [if_pos hw]
  obtain ⟨i0, hi, hz0, hz1, hz2⟩ := info_parts Tryd.infoStep
  obtain ⟨v', w', hr, h2, h3, -, -⟩ := run_append_own_at (P := Tryd.prog) w base 22 o.type 37 i0 _ 2 16 Tryd.underlying22 hi hz0 hz1 hz2 rfl (by decide) v L.length (stCells L) hown ad 1 c (stCells [y]) (stCells_len [y]) (sts_news hm) (by
    intro u hu
    unfold stCells at hu
    rw [List.mem_flatMap] at hu
    obtain ⟨y', _, hy⟩ := hu
    simp at hy
    rcases hy with rfl | rfl <;> rfl) (by unfold maxLen; omega) (by omega) hbase
  unfold Oper.wp execOp
  simp only [ho, resolve, invoke, builtin, Sem.run_bind, Sem.run_pure, Result.andThen_ok, List.map_toArray, List.map_cons, List.map_nil, hs, hx, hr]
  obtain ⟨a', c', rfl, _⟩ := row_slice h2
  refine h a' c' w' ?_ h3
  rw [stCells_append, List.length_append]
  exact h2

/-- The copy p at block P, its own row of steps. -/
def PSt (w : World) (o0 : Od) (a0 : Option Addr) (cap0 P : Nat) (q : Od) (nv : Value) (wx : World) : Prop :=
  Below w.heap.size w wx ∧ w.heap.size < P ∧ P + 1 ≤ wx.heap.size ∧ wx.heap[w.heap.size]? = some (.cells #[.int .i64 o0.id, .int .i64 o0.item, .int .i64 o0.qty, .int .i64 o0.client, .int .i64 o0.price, .slice a0 o0.steps.length cap0] 24 (0, 0)) ∧
  wx.heap[P]? = some (.cells #[.int .i64 q.id, .int .i64 q.item, .int .i64 q.qty, .int .i64 q.client, .int .i64 q.price, nv] 24 (0, 0)) ∧
  wx.ownsRow (P + 1) 37 2 nv q.steps.length (stCells q.steps)
theorem row_set' {w : World} {base : Nat} {e : TypeId} {s : Nat} {v : Value} {n : Nat} {xs : List Value} (h : w.ownsRow base e s v n xs) (a : Addr) (u : Value) (ha : a.block < base) : (w.setCell a u).ownsRow base e s v n xs :=
  row_stays h (fun k cs hk _ => Below.heap_setCell _ _ _ _ (by omega))
theorem PSt.set0 {w : World} {o0 : Od} {a0 : Option Addr} {cap0 P : Nat} {q : Od} {nv : Value} {wx : World} (h : PSt w o0 a0 cap0 P q nv wx) (x : Int) : PSt w o0 a0 cap0 P ⟨x, q.item, q.qty, q.client, q.price, q.steps⟩ nv (wx.setCell ⟨P, 0, none⟩ (.int .i64 x)) := by
  obtain ⟨h1, h2, h3, h4, h5, h6⟩ := h
  refine ⟨h1.setCell (by show w.heap.size ≤ P; omega) _, h2, by simpa using h3, ?_, ?_, row_set' h6 _ _ (by show P < P + 1; omega)⟩
  · rw [Below.heap_setCell _ _ _ _ (by show w.heap.size ≠ P; omega)]; exact h4
  · rw [heap_setCell_same _ _ _ _ _ _ h5]; simp
theorem PSt.set1 {w : World} {o0 : Od} {a0 : Option Addr} {cap0 P : Nat} {q : Od} {nv : Value} {wx : World} (h : PSt w o0 a0 cap0 P q nv wx) (x : Int) : PSt w o0 a0 cap0 P ⟨q.id, x, q.qty, q.client, q.price, q.steps⟩ nv (wx.setCell ⟨P, 1, none⟩ (.int .i64 x)) := by
  obtain ⟨h1, h2, h3, h4, h5, h6⟩ := h
  refine ⟨h1.setCell (by show w.heap.size ≤ P; omega) _, h2, by simpa using h3, ?_, ?_, row_set' h6 _ _ (by show P < P + 1; omega)⟩
  · rw [Below.heap_setCell _ _ _ _ (by show w.heap.size ≠ P; omega)]; exact h4
  · rw [heap_setCell_same _ _ _ _ _ _ h5]; simp
theorem PSt.set2 {w : World} {o0 : Od} {a0 : Option Addr} {cap0 P : Nat} {q : Od} {nv : Value} {wx : World} (h : PSt w o0 a0 cap0 P q nv wx) (x : Int) : PSt w o0 a0 cap0 P ⟨q.id, q.item, x, q.client, q.price, q.steps⟩ nv (wx.setCell ⟨P, 2, none⟩ (.int .i64 x)) := by
  obtain ⟨h1, h2, h3, h4, h5, h6⟩ := h
  refine ⟨h1.setCell (by show w.heap.size ≤ P; omega) _, h2, by simpa using h3, ?_, ?_, row_set' h6 _ _ (by show P < P + 1; omega)⟩
  · rw [Below.heap_setCell _ _ _ _ (by show w.heap.size ≠ P; omega)]; exact h4
  · rw [heap_setCell_same _ _ _ _ _ _ h5]; simp
theorem PSt.set3 {w : World} {o0 : Od} {a0 : Option Addr} {cap0 P : Nat} {q : Od} {nv : Value} {wx : World} (h : PSt w o0 a0 cap0 P q nv wx) (x : Int) : PSt w o0 a0 cap0 P ⟨q.id, q.item, q.qty, x, q.price, q.steps⟩ nv (wx.setCell ⟨P, 3, none⟩ (.int .i64 x)) := by
  obtain ⟨h1, h2, h3, h4, h5, h6⟩ := h
  refine ⟨h1.setCell (by show w.heap.size ≤ P; omega) _, h2, by simpa using h3, ?_, ?_, row_set' h6 _ _ (by show P < P + 1; omega)⟩
  · rw [Below.heap_setCell _ _ _ _ (by show w.heap.size ≠ P; omega)]; exact h4
  · rw [heap_setCell_same _ _ _ _ _ _ h5]; simp
theorem PSt.set4 {w : World} {o0 : Od} {a0 : Option Addr} {cap0 P : Nat} {q : Od} {nv : Value} {wx : World} (h : PSt w o0 a0 cap0 P q nv wx) (x : Int) : PSt w o0 a0 cap0 P ⟨q.id, q.item, q.qty, q.client, x, q.steps⟩ nv (wx.setCell ⟨P, 4, none⟩ (.int .i64 x)) := by
  obtain ⟨h1, h2, h3, h4, h5, h6⟩ := h
  refine ⟨h1.setCell (by show w.heap.size ≤ P; omega) _, h2, by simpa using h3, ?_, ?_, row_set' h6 _ _ (by show P < P + 1; omega)⟩
  · rw [Below.heap_setCell _ _ _ _ (by show w.heap.size ≠ P; omega)]; exact h4
  · rw [heap_setCell_same _ _ _ _ _ _ h5]; simp
theorem PSt.on {w : World} {o0 : Od} {a0 : Option Addr} {cap0 P : Nat} {q : Od} {nv : Value} {wx wy : World} (h : PSt w o0 a0 cap0 P q nv wx) (hb : Below wx.heap.size wx wy) : PSt w o0 a0 cap0 P q nv wy := by
  obtain ⟨h1, h2, h3, h4, h5, h6⟩ := h
  exact ⟨bel_on' h1 hb, h2, Nat.le_trans h3 hb.size, (hb.block _ (by omega)).trans h4, (hb.block _ (by omega)).trans h5, row_stays h6 (fun k cs _ hc => hb.block k (Array.getElem?_eq_some_iff.1 hc).1)⟩
theorem PSt.app {w : World} {o0 : Od} {a0 : Option Addr} {cap0 P : Nat} {q : Od} {nv nv' : Value} {w5 w6 : World} {st' : List (Int × Int)} (h : PSt w o0 a0 cap0 P q nv w5) (g : w5.grownBy w6 nv.ownBlock) (o : w6.ownsRow (P + 1) 37 2 nv' st'.length (stCells st')) :
    PSt w o0 a0 cap0 P ⟨q.id, q.item, q.qty, q.client, q.price, st'⟩ nv' (w6.setCell ⟨P, 5, none⟩ nv') ∧ w6.cell? ⟨P, 5, none⟩ = some nv ∧ w6.frozen? ⟨P, 5, none⟩ = false := by
  obtain ⟨h1, h2, h3, h4, h5, h6⟩ := h
  have hb : Below (P + 1) w5 w6 := (Below.refl _ _).grown g h3 (fun j hj => (h6.lt j hj).1)
  have hs := hb.size
  have e5 := (hb.block _ (by omega)).trans h5
  refine ⟨⟨(h1.trans (hb.mono (by omega))).setCell (by show w.heap.size ≤ P; omega) _, h2, by simp; omega, ?_, ?_, row_set' o _ _ (by show P < P + 1; omega)⟩, by rw [cell_of e5]; rfl, frozen_of_row _ _ _ _ _ e5⟩
  · rw [Below.heap_setCell _ _ _ _ (by show w.heap.size ≠ P; omega), hb.block _ (by omega)]; exact h4
  · rw [heap_setCell_same _ _ _ _ _ _ e5]; simp

theorem PSt.first {w : World} {o0 : Od} {a0 : Option Addr} {cap0 P : Nat} {q : Od} {nv old : Value} {w6 : World} (h1 : Below w.heap.size w w6) (h2 : w.heap.size < P) (h3 : P + 1 ≤ w6.heap.size) (h4 : w6.heap[w.heap.size]? = some (.cells #[.int .i64 o0.id, .int .i64 o0.item, .int .i64 o0.qty, .int .i64 o0.client, .int .i64 o0.price, .slice a0 o0.steps.length cap0] 24 (0, 0)))
    (e5 : w6.heap[P]? = some (.cells #[.int .i64 q.id, .int .i64 q.item, .int .i64 q.qty, .int .i64 q.client, .int .i64 q.price, old] 24 (0, 0))) (o : w6.ownsRow (P + 1) 37 2 nv q.steps.length (stCells q.steps)) :
    PSt w o0 a0 cap0 P q nv (w6.setCell ⟨P, 5, none⟩ nv) ∧ w6.cell? ⟨P, 5, none⟩ = some old ∧ w6.frozen? ⟨P, 5, none⟩ = false := by
  refine ⟨⟨h1.setCell (by show w.heap.size ≤ P; omega) _, h2, by simpa using h3, ?_, ?_, row_set' o _ _ (by show P < P + 1; omega)⟩, by rw [cell_of e5]; rfl, frozen_of_row _ _ _ _ _ e5⟩
  · rw [Below.heap_setCell _ _ _ _ (by show w.heap.size ≠ P; omega)]; exact h4
  · rw [heap_setCell_same _ _ _ _ _ _ e5]; simp
theorem grown_first {w : World} {o0 : Od} {a0 : Option Addr} {cap0 P : Nat} {q : Od} {nv v old : Value} {R w6 : World} (h1 : Below w.heap.size w R) (h2 : w.heap.size < P) (h3 : P + 1 ≤ R.heap.size) (h4 : R.heap[w.heap.size]? = some (.cells #[.int .i64 o0.id, .int .i64 o0.item, .int .i64 o0.qty, .int .i64 o0.client, .int .i64 o0.price, .slice a0 o0.steps.length cap0] 24 (0, 0)))
    (e5 : R.heap[P]? = some (.cells #[.int .i64 q.id, .int .i64 q.item, .int .i64 q.qty, .int .i64 q.client, .int .i64 q.price, old] 24 (0, 0))) (ho : R.ownsRow (P + 1) 37 2 v ([] : List (Int × Int)).length (stCells [])) (g : R.grownBy w6 v.ownBlock) (o : w6.ownsRow (P + 1) 37 2 nv q.steps.length (stCells q.steps)) :
    PSt w o0 a0 cap0 P q nv (w6.setCell ⟨P, 5, none⟩ nv) ∧ w6.cell? ⟨P, 5, none⟩ = some old ∧ w6.frozen? ⟨P, 5, none⟩ = false := by
  have hb : Below (P + 1) R w6 := (Below.refl _ _).grown g h3 (fun j hj => (ho.lt j hj).1)
  exact PSt.first (h1.trans (hb.mono (by omega))) h2 (Nat.le_trans h3 hb.size) ((hb.block _ (by omega)).trans h4) ((hb.block _ (by omega)).trans e5) o
theorem append_all {w : World} {ops : Array Oper} {rest : List Oper} {o : Oper} {a : Act} {Q : Exit → Act → World → Prop} (hgd : o.guard = none) (s x : Operand)
    (ho : o.op = .call { callee := .builtin .append, args := #[s, x], argTypes := #[22, 22] })
    (base : Nat) (v : Value) (hs : a.eval s = v) (hown : w.ownsRow base 37 2 v ([] : List (Int × Int)).length (stCells [])) (ad : Addr) (m : List (Int × Int)) (c : Nat) (hx : a.eval x = .slice (some ad) m.length c)
    (hm : Sts w (some ad) m) (hb : m.length ≤ 1000000) (hbase : base ≤ w.heap.size)
    (h : ∀ a' c' w', w'.ownsRow base 37 2 (.slice a' m.length c') m.length (stCells m) → w.grownBy w' v.ownBlock → wpList Tryd.prog ops Q rest (a.put o.dst (.slice a' m.length c')) w') : wpList Tryd.prog ops Q (o :: rest) a w := by
  refine append_sts hgd s x ho base v [] hs hown ad m c hx hm (by simpa using hb) hbase ?_
  intro a' c' w' h1 h2
  simp only [List.nil_append, List.length_nil, Nat.zero_add] at h1 ⊢
  exact h a' c' w' h1 h2

/-- Neither may it be, nor is it the same. -/
def Spoilt (o q : Od) : Prop := mayO q = false ∧ sameO o q = false
theorem spoil_id {o : Od} (h : mayO o = true) : Spoilt o ⟨0, o.item, o.qty, o.client, o.price, o.steps⟩ := by
  obtain ⟨p1, p2, p3, p4, p5, _⟩ := mayO_parts h
  refine ⟨?_, ?_⟩
  · unfold mayO
    simp only [show oidB 0 = false from rfl]
    simp
  · cases hs : sameO o ⟨0, o.item, o.qty, o.client, o.price, o.steps⟩
    · rfl
    · have e := congrArg Od.id ((sameO_iff _ _).1 hs)
      simp only at e
      omega
theorem spoil_item {o : Od} (h : mayO o = true) : Spoilt o ⟨o.id, 8, o.qty, o.client, o.price, o.steps⟩ := by
  obtain ⟨p1, p2, p3, p4, p5, _⟩ := mayO_parts h
  refine ⟨?_, ?_⟩
  · unfold mayO
    simp only [show plcB 8 = false from rfl]
    simp
  · cases hs : sameO o ⟨o.id, 8, o.qty, o.client, o.price, o.steps⟩
    · rfl
    · have e := congrArg Od.item ((sameO_iff _ _).1 hs)
      simp only at e
      omega
theorem spoil_qty {o : Od} (h : mayO o = true) : Spoilt o ⟨o.id, o.item, 0, o.client, o.price, o.steps⟩ := by
  obtain ⟨p1, p2, p3, p4, p5, _⟩ := mayO_parts h
  refine ⟨?_, ?_⟩
  · unfold mayO
    simp only [show amtB 0 = false from rfl]
    simp
  · cases hs : sameO o ⟨o.id, o.item, 0, o.client, o.price, o.steps⟩
    · rfl
    · have e := congrArg Od.qty ((sameO_iff _ _).1 hs)
      simp only at e
      omega
theorem spoil_client {o : Od} (h : mayO o = true) : Spoilt o ⟨o.id, o.item, o.qty, (-1), o.price, o.steps⟩ := by
  obtain ⟨p1, p2, p3, p4, p5, _⟩ := mayO_parts h
  refine ⟨?_, ?_⟩
  · unfold mayO
    simp only [show plcB (-1) = false from rfl]
    simp
  · cases hs : sameO o ⟨o.id, o.item, o.qty, (-1), o.price, o.steps⟩
    · rfl
    · have e := congrArg Od.client ((sameO_iff _ _).1 hs)
      simp only at e
      omega
theorem spoil_price {o : Od} (h : mayO o = true) : Spoilt o ⟨o.id, o.item, o.qty, o.client, 1000000001, o.steps⟩ := by
  obtain ⟨p1, p2, p3, p4, p5, _⟩ := mayO_parts h
  refine ⟨?_, ?_⟩
  · unfold mayO
    simp only [show amtB 1000000001 = false from rfl]
    simp
  · cases hs : sameO o ⟨o.id, o.item, o.qty, o.client, 1000000001, o.steps⟩
    · rfl
    · have e := congrArg Od.price ((sameO_iff _ _).1 hs)
      simp only at e
      omega
theorem spoil_len {o : Od} {y : Int × Int} (hy : okAt (o.steps ++ [y]) o.steps.length = false) : Spoilt o ⟨o.id, o.item, o.qty, o.client, o.price, o.steps ++ [y]⟩ := by
  refine ⟨?_, ?_⟩
  · unfold mayO stepsB
    rw [okTo_fail hy (by simp)]
    simp
  · cases hs : sameO o ⟨o.id, o.item, o.qty, o.client, o.price, o.steps ++ [y]⟩
    · rfl
    · have e := congrArg (fun q => q.steps.length) ((sameO_iff _ _).1 hs)
      simp at e
theorem stAt_last (l : List (Int × Int)) (y : Int × Int) : stAt (l ++ [y]) l.length = y := by
  unfold stAt
  simp [List.getD]
theorem spoil_more {o : Od} : Spoilt o ⟨o.id, o.item, o.qty, o.client, o.price, o.steps ++ [(3, 1)]⟩ := by
  apply spoil_len
  unfold okAt
  rw [stAt_last]
  rfl
theorem spoil_twice {o : Od} (h0 : 0 < o.steps.length) : Spoilt o ⟨o.id, o.item, o.qty, o.client, o.price, o.steps ++ [stAt o.steps 0]⟩ := by
  apply spoil_len
  unfold okAt
  rw [stAt_last]
  have : ((o.steps ++ [stAt o.steps 0]).take o.steps.length).any (fun x => x.1 == (stAt o.steps 0).1) = true := by
    rw [List.take_left, List.any_eq_true]
    exact ⟨stAt o.steps 0, stAt_mem h0, by simp⟩
  rw [this]
  simp
theorem rem7 (a : Int) : ∃ r : Int, (IntKind.u64.wrap a).tmod 7 = r ∧ (r = 0 ∨ r = 1 ∨ r = 2 ∨ r = 3 ∨ r = 4 ∨ r = 5 ∨ r = 6) := by
  have h0 : 0 ≤ IntKind.u64.wrap a := by rw [IntKind.wrap_u64]; omega
  refine ⟨_, rfl, ?_⟩
  rw [Int.tmod_eq_emod_of_nonneg h0]
  omega
theorem row_empty (w : World) (base : Nat) (hb : base ≤ w.heap.size) : (w.alloc (.cells #[] 37)).ownsRow base 37 2 (.slice (some ⟨w.heap.size, 0, none⟩) 0 0) ([] : List (Int × Int)).length (stCells []) :=
  ⟨rfl, .inr ⟨w.heap.size, 0, #[], rfl, hb, by show (w.heap.push _)[w.heap.size]? = _; simp, Nat.le_refl _, Nat.zero_le _, rfl, rfl⟩⟩

set_option maxRecDepth 100000 in
set_option maxHeartbeats 8000000 in
theorem orderSpoilt_walk (o0 : Od) (a0 : Option Addr) (cap0 : Nat) (a1 : Int) (w : World) (w0 : OdIn w o0 a0 cap0) (_w1 : (Lit.int .i64 a1).wf = true) (hg : Gl w) :
    Calls Tryd.prog 5 #[.agg #[.int .i64 o0.id, .int .i64 o0.item, .int .i64 o0.qty, .int .i64 o0.client, .int .i64 o0.price, .slice a0 o0.steps.length cap0], .int .i64 a1] w fun e w' => e = .returned (.bool true) ∧ Below w.heap.size w w' := by
  clear _w1
  obtain ⟨hl, hst, hno, hcap⟩ := w0
  have HG := hide hg
  obtain ⟨V, hV⟩ : ∃ V, V = w.alloc (.cells #[.int .i64 o0.id, .int .i64 o0.item, .int .i64 o0.qty, .int .i64 o0.client, .int .i64 o0.price, .slice a0 o0.steps.length cap0] 24) := ⟨_, rfl⟩
  have hbV : Below w.heap.size w V := by rw [hV]; exact (Below.refl _ _).alloc (Nat.le_refl _) _
  have hVb : V.heap[w.heap.size]? = some (.cells #[.int .i64 o0.id, .int .i64 o0.item, .int .i64 o0.qty, .int .i64 o0.client, .int .i64 o0.price, .slice a0 o0.steps.length cap0] 24 (0, 0)) := by
    rw [hV]
    show (w.heap.push _)[w.heap.size]? = _
    simp
  have LT := light_any o0 a0 cap0 V hl
  rw [hV] at LT
  have HV := hide hV
  have HBV := hide hbV
  have HVB := hide hVb
  have HST := hide hst
  have HLN := hide hl
  have HNO := hide hno
  have HCAP := hide hcap
  have AWK : Hid (∀ u, Below w.heap.size w u → Calls Tryd.prog 9 #[] u fun e w' => e = .returned (.bool true) ∧ Below u.heap.size u w') := fun u hu => oawake_any u (HG.out.on hu)
  clear hV hbV hVb hst hg hno hcap
  by_cases h20 : o0.steps.length ≤ 20
  rotate_left
  · have e20 : decide (o0.steps.length ≤ 20) = false := by simpa using h20
    rw [e20] at LT
    clear e20 h20
    go_enter Tryd.func5, Tryd.ntmps5
    go_wp2_with fail
    refine LT.mono ?_
    rintro e u1 ⟨rfl, hb1⟩
    rw [← HV.out] at hb1
    have HB1 := hide (bel_on' HBV.out hb1)
    go_wp2_with fail
    refine (AWK.out _ HB1.out).mono ?_
    rintro e u2 ⟨rfl, hb2⟩
    go_wp2
    go_ret
    exact ⟨rfl, bel_on' HB1.out hb2⟩
  have e20 : decide (o0.steps.length ≤ 20) = true := by simpa using h20
  rw [e20] at LT
  clear e20
  cases hm : mayO o0
  · go_enter Tryd.func5, Tryd.ntmps5
    go_wp2_with fail
    refine LT.mono ?_
    rintro e u1 ⟨rfl, hb1⟩
    rw [← HV.out] at hb1
    have HB1 := hide (bel_on' HBV.out hb1)
    have hx := (hb1.block _ (Array.getElem?_eq_some_iff.1 HVB.out).1).trans HVB.out
    obtain ⟨⟨d0, d1, d2, d3, d4, d5⟩, -⟩ := six_of hx
    have MY := omay_any o0 a0 cap0 u1 (HST.out.below HB1.out) HLN.out
    rw [hm] at MY
    clear hb1 hx LT
    go_wp2_with fail
    refine MY.mono ?_
    rintro e u2 ⟨rfl, hb2⟩
    have HB2 := hide (bel_on' HB1.out hb2)
    clear d0 d1 d2 d3 d4 d5 hb2
    go_wp2_with fail
    refine (AWK.out _ HB2.out).mono ?_
    rintro e u3 ⟨rfl, hb3⟩
    go_wp2
    go_ret
    exact ⟨rfl, bel_on' HB2.out hb3⟩
  have HMB := hide hm
  go_enter Tryd.func5, Tryd.ntmps5
  go_wp2_with fail
  refine LT.mono ?_
  rintro e u1 ⟨rfl, hb1⟩
  rw [← HV.out] at hb1
  have HB1 := hide (bel_on' HBV.out hb1)
  have hx := (hb1.block _ (Array.getElem?_eq_some_iff.1 HVB.out).1).trans HVB.out
  have HX1 := hide hx
  obtain ⟨⟨d0, d1, d2, d3, d4, d5⟩, -⟩ := six_of hx
  have MY := omay_any o0 a0 cap0 u1 (HST.out.below HB1.out) HLN.out
  rw [hm] at MY
  clear hb1 hx LT
  go_wp2_with fail
  refine MY.mono ?_
  rintro e u2 ⟨rfl, hb2⟩
  have HB2 := hide (bel_on' HB1.out hb2)
  have HX2 := hide ((hb2.block _ (Array.getElem?_eq_some_iff.1 HX1.out).1).trans HX1.out)
  clear d0 d1 d2 d3 d4 d5 hb2 hm MY
  obtain ⟨⟨d0, d1, d2, d3, d4, d5⟩, -⟩ := six_of HX2.out
  have hl2 : w.heap.size < u2.heap.size := (Array.getElem?_eq_some_iff.1 HX2.out).1
  go_upto_region 4 with fail
  obtain ⟨U, hU⟩ : ∃ U, U = u2.alloc (.cells #[.int .i64 o0.id, .int .i64 o0.item, .int .i64 o0.qty, .int .i64 o0.client, .int .i64 o0.price, .slice a0 o0.steps.length cap0] 24) := ⟨_, rfl⟩
  have hUs : U.heap.size = u2.heap.size + 1 := by rw [hU]; simp
  have hUb : Below u2.heap.size u2 U := by rw [hU]; exact (Below.refl _ _).alloc (Nat.le_refl _) _
  have hUp : U.heap[u2.heap.size]? = some (.cells #[.int .i64 o0.id, .int .i64 o0.item, .int .i64 o0.qty, .int .i64 o0.client, .int .i64 o0.price, .slice a0 o0.steps.length cap0] 24 (0, 0)) := by
    rw [hU]
    show (u2.heap.push _)[u2.heap.size]? = _
    simp
  have hUo := (hUb.block _ hl2).trans HX2.out
  have e5 : U.cell? ⟨w.heap.size, 5, none⟩ = some (.slice a0 o0.steps.length cap0) := by rw [cell_of hUo]; rfl
  have HBU := hide (bel_on' HB2.out hUb)
  rw [← hU]
  obtain ⟨P, hP⟩ : ∃ P, P = u2.heap.size := ⟨_, rfl⟩
  rw [← hP] at hUs hUp hl2 ⊢
  obtain ⟨R, hR⟩ : ∃ R, R = U.alloc (.cells #[] 37) := ⟨_, rfl⟩
  have hRb : Below U.heap.size U R := by rw [hR]; exact (Below.refl _ _).alloc (Nat.le_refl _) _
  have HRB := hide (bel_on' HBU.out hRb)
  have HRo := hide ((hRb.block _ (by omega)).trans hUo)
  have HRp := hide ((hRb.block _ (by omega)).trans hUp)
  have hRs : R.heap.size = P + 2 := by rw [hR]; simp [hUs]
  have HOW : Hid (R.ownsRow (P + 1) 37 2 (.slice (some ⟨P + 1, 0, none⟩) 0 0) ([] : List (Int × Int)).length (stCells [])) := by
    have := row_empty U (P + 1) (by omega)
    rw [hUs, ← hR] at this
    exact this
  have HR := hide hR
  have HHO := hide hUo
  clear hU hUb hUo hUp hP hR hRb d0 d1 d2 d3 d4 d5
  go_cut [20] from 16 to 19 (fun _ wx => ∃ nv, Hid (PSt w o0 a0 cap0 P o0 nv wx))
  case first =>
    cases a0 with
    | none =>
      obtain ⟨hn1, hn2⟩ := HNO.out rfl
      have hn3 : o0.steps.length = 0 := by rw [hn1]; rfl
      have e5' : U.cell? ⟨w.heap.size, 5, none⟩ = some (.slice none 0 0) := by rw [e5, hn3, hn2]
      obtain ⟨k1, k2, k3⟩ := PSt.first (q := o0) (nv := .slice (some ⟨P + 1, 0, none⟩) 0 0) HRB.out hl2 (by omega) HRo.out HRp.out (by rw [hn1]; exact HOW.out)
      rw [HR.out, World.setCell_alloc_past _ P 5 _ (by omega)] at k1
      rw [HR.out] at k2 k3
      have K1 := hide k1
      clear k1 e5 hn1 hn3 hn2
      go_wp2_with fail
      go_meet
      exact ⟨_, K1⟩
    | some ad =>
      have HSR : Hid (Sts R (some ad) o0.steps) := HST.out.below HRB.out
      have hR2 : P + 1 ≤ R.heap.size := by omega
      have HR2 := hide hR2
      rw [HR.out] at HOW HSR HR2
      clear hR2 hRs
      go_wp2_with (first
        | (at_builtin; refine append_all rfl (.tmp 16) (.tmp 18) rfl (P + 1) _ rfl HOW.out ad o0.steps cap0 rfl HSR.out ?hbb HR2.out ?_; (case hbb => omega); intro a6 c6 w6 o6 g6; obtain ⟨k1, k2, k3⟩ := grown_first HRB.out hl2 (by rw [HR.out]; exact HR2.out) HRo.out HRp.out (by rw [HR.out]; exact HOW.out) (by rw [HR.out]; exact g6) o6; have K1 := hide k1; clear k1 o6 g6))
      go_meet
      exact ⟨_, K1⟩
  case rest =>
    obtain ⟨nv, HPS⟩ := hcut
    clear e5 HR HOW HRo HRp HRB HHO HBU
    obtain ⟨av, cv, rfl, -⟩ := row_slice HPS.out.2.2.2.2.2
    obtain ⟨r, hr, hrr⟩ := rem7 a1
    go_upto_block 0 with fail
    go_cut [38] from 24 to 60 (fun _ wx => ∃ (q : Od) (nv : Value), Hid (PSt w o0 a0 cap0 P q nv wx) ∧ Hid (Spoilt o0 q))
    case first =>
      rcases hrr with rfl | rfl | rfl | rfl | rfl | rfl | rfl
      · have HSP := hide (spoil_id HMB.out)
        have K := hide (HPS.out.set0 0)
        obtain ⟨⟨x0, x1, x2, x3, x4, x5⟩, f0, f1, f2, f3, f4, f5⟩ := six_of HPS.out.2.2.2.2.1
        go_wp2_with fail
        go_meet
        exact ⟨_, _, K, HSP⟩
      · have HSP := hide (spoil_item HMB.out)
        have K := hide (HPS.out.set1 8)
        obtain ⟨⟨x0, x1, x2, x3, x4, x5⟩, f0, f1, f2, f3, f4, f5⟩ := six_of HPS.out.2.2.2.2.1
        go_wp2_with fail
        go_meet
        exact ⟨_, _, K, HSP⟩
      · have HSP := hide (spoil_client HMB.out)
        have K := hide (HPS.out.set3 (-1))
        obtain ⟨⟨x0, x1, x2, x3, x4, x5⟩, f0, f1, f2, f3, f4, f5⟩ := six_of HPS.out.2.2.2.2.1
        go_wp2_with fail
        go_meet
        exact ⟨_, _, K, HSP⟩
      · have HSP := hide (spoil_qty HMB.out)
        have K := hide (HPS.out.set2 0)
        obtain ⟨⟨x0, x1, x2, x3, x4, x5⟩, f0, f1, f2, f3, f4, f5⟩ := six_of HPS.out.2.2.2.2.1
        go_wp2_with fail
        go_meet
        exact ⟨_, _, K, HSP⟩
      · have HSP := hide (spoil_price HMB.out)
        have K := hide (HPS.out.set4 1000000001)
        obtain ⟨⟨x0, x1, x2, x3, x4, x5⟩, f0, f1, f2, f3, f4, f5⟩ := six_of HPS.out.2.2.2.2.1
        go_wp2_with fail
        go_meet
        exact ⟨_, _, K, HSP⟩
      · have HSP := hide (spoil_more (o := o0))
        obtain ⟨⟨x0, x1, x2, x3, x4, x5⟩, f0, f1, f2, f3, f4, f5⟩ := six_of HPS.out.2.2.2.2.1
        have HV5 := hide (HPS.out.on ((Below.refl _ _).alloc (Nat.le_refl _) (.cells #[.int .i64 3, .int .i64 1] 37)))
        have hps : P + 1 ≤ wc.heap.size := HPS.out.2.2.1
        go_wp2_with (first
          | (at_builtin; refine append_st1 rfl (.tmp 56) (.tmp 58) rfl (P + 1) _ o0.steps rfl HV5.out.2.2.2.2.2 ⟨wc.heap.size, 0, none⟩ ((3 : Int), (1 : Int)) 1 rfl (sts_one wc 3 1) ?hnn ?hba ?_; (case hnn => omega); (case hba => exact HV5.out.2.2.1); intro a6 c6 w6 o6 g6; obtain ⟨k1, k2, k3⟩ := HV5.out.app g6 o6; have K1 := hide k1; clear k1 o6 g6))
        go_meet
        exact ⟨_, _, K1, HSP⟩
      · by_cases hz : o0.steps.length = 0
        · have qz : ((o0.steps.length : Int) == 0) = true := by rw [hz]; rfl
          obtain ⟨⟨x0, x1, x2, x3, x4, x5⟩, f0, f1, f2, f3, f4, f5⟩ := six_of HPS.out.2.2.2.2.1
          have HC5 := hide HPS.out.1
          clear hz
          go_wp2_with fail
          refine (AWK.out _ HC5.out).mono ?_
          rintro e uz ⟨rfl, hbz⟩
          go_wp2
          go_ret
          exact ⟨rfl, bel_on' HC5.out hbz⟩
        · have qz : ((o0.steps.length : Int) == 0) = false := by simp only [beq_eq_false_iff_ne]; omega
          have HSP := hide (spoil_twice (o := o0) (by omega))
          obtain ⟨⟨x0, x1, x2, x3, x4, x5⟩, f0, f1, f2, f3, f4, f5⟩ := six_of HPS.out.2.2.2.2.1
          have hst0 : Sts wc av o0.steps := row_sts HPS.out.2.2.2.2.2
          have hq0n : 0 < o0.steps.length := by omega
          obtain ⟨b, off, rfl, y1, y2⟩ := hst0.at (i := 0) hq0n
          clear hst0
          obtain ⟨z1, ez1⟩ : ∃ z, z = (stAt o0.steps 0).1 := ⟨_, rfl⟩
          obtain ⟨z2, ez2⟩ : ∃ z, z = (stAt o0.steps 0).2 := ⟨_, rfl⟩
          rw [← ez1] at y1
          rw [← ez2] at y2
          have hEZ : stAt o0.steps 0 = (z1, z2) := by rw [ez1, ez2]
          rw [hEZ] at HSP
          clear ez1 ez2 hEZ
          simp only [Nat.zero_mul, Nat.add_zero] at y1 y2
          have hq0 : (0 : Int) < (o0.steps.length : Int) := by omega
          have HV5 := hide (HPS.out.on (wy := (wc.alloc (.cells #[.int .i64 z1, .int .i64 z2] 37)).drew) ((Below.refl _ _).alloc (Nat.le_refl _) (.cells #[.int .i64 z1, .int .i64 z2] 37)).drew)
          have HS1 : Hid (Sts (wc.alloc (.cells #[.int .i64 z1, .int .i64 z2] 37)).drew (some ⟨wc.heap.size, 0, none⟩) [(z1, z2)]) := (sts_one wc z1 z2).below (Below.refl _ _).drew
          have hps : P < wc.heap.size := HPS.out.2.2.1
          go_wp2_with fail
          go_region_law (refine step_append_st1 rfl (.tmp 30) (.tmp 35) rfl (P + 1) _ o0.steps rfl HV5.out.2.2.2.2.2 ⟨wc.heap.size, 0, none⟩ (z1, z2) 1 rfl HS1.out (by omega) HV5.out.2.2.1 ?_; intro a6 c6 w6 o6 g6; obtain ⟨k1, k2, k3⟩ := HV5.out.app g6 o6; have K1 := hide k1; clear k1 o6 g6)
          all_goals (go_wp2_with fail; go_meet; exact ⟨_, _, K1, HSP⟩)
    case rest =>
      obtain ⟨q, nv, HPQ, HSP⟩ := hcut
      obtain ⟨bv, dv, rfl, -⟩ := row_slice HPQ.out.2.2.2.2.2
      have HC5 := hide HPQ.out.1
      have HA5 := hide HPQ.out.2.2.2.1
      have HP5 := hide HPQ.out.2.2.2.2.1
      have HQ5 : Hid (Sts wc bv q.steps) := row_sts HPQ.out.2.2.2.2.2
      have HQL : Hid (q.steps.length ≤ 9223372036854775807) := by
        have h := HPQ.out.2.2.2.2.2.2
        rcases h with ⟨_, h⟩ | ⟨g, cap, cur, hv, _, _, h1, h2, _⟩
        · show _ ≤ _; omega
        · unfold maxLen at h2
          show _ ≤ _; omega
      have HS0 : Hid (Sts wc a0 o0.steps) := HST.out.below HC5.out
      have qT : textV q = [] := (textV_nil q).2 HSP.out.1
      have M := omay_any q bv dv wc HQ5.out HQL.out
      rw [HSP.out.1] at M
      obtain ⟨⟨p0', p1', p2', p3', p4', p5'⟩, -⟩ := six_of HP5.out
      go_wp2_with fail
      refine M.mono ?_
      rintro e u6 ⟨rfl, hb⟩
      have HC6 := hide (bel_on' HC5.out hb)
      have HA6 := hide ((hb.block _ (Array.getElem?_eq_some_iff.1 HA5.out).1).trans HA5.out)
      have HP6 := hide ((hb.block _ (Array.getElem?_eq_some_iff.1 HP5.out).1).trans HP5.out)
      have HQ6 := hide (HQ5.out.below hb)
      have HS6 := hide (HS0.out.below hb)
      clear hb M
      clear p0' p1' p2' p3' p4' p5'
      obtain ⟨⟨p0', p1', p2', p3', p4', p5'⟩, -⟩ := six_of HP6.out
      have TX := otext_any q bv dv u6 HQ6.out HQL.out (HG.out.on HC6.out)
      rw [qT] at TX
      have TX2 : Calls Tryd.prog 18 #[.agg #[.int .i64 q.id, .int .i64 q.item, .int .i64 q.qty, .int .i64 q.client, .int .i64 q.price, .slice bv q.steps.length dv]] u6 fun e w' => e = .returned (.string ⟨#[]⟩) ∧ Below u6.heap.size u6 w' := TX
      clear TX
      go_wp2_with fail
      refine TX2.mono ?_
      rintro e u7 ⟨rfl, hb⟩
      have HC7 := hide (bel_on' HC6.out hb)
      have HA7 := hide ((hb.block _ (Array.getElem?_eq_some_iff.1 HA6.out).1).trans HA6.out)
      have HP7 := hide ((hb.block _ (Array.getElem?_eq_some_iff.1 HP6.out).1).trans HP6.out)
      have HQ7 := hide (HQ6.out.below hb)
      have HS7 := hide (HS6.out.below hb)
      clear hb TX2
      clear p0' p1' p2' p3' p4' p5'
      obtain ⟨⟨a0', a1', a2', a3', a4', a5'⟩, -⟩ := six_of HA7.out
      obtain ⟨⟨p0', p1', p2', p3', p4', p5'⟩, -⟩ := six_of HP7.out
      have S1 := osame_any o0 q a0 bv cap0 dv u7 HS7.out HQ7.out HLN.out
      rw [HSP.out.2] at S1
      go_wp2_with fail
      refine S1.mono ?_
      rintro e u8 ⟨rfl, hb⟩
      have HC8 := hide (bel_on' HC7.out hb)
      have HA8 := hide ((hb.block _ (Array.getElem?_eq_some_iff.1 HA7.out).1).trans HA7.out)
      have HS8 := hide (HS7.out.below hb)
      clear hb S1
      clear a0' a1' a2' a3' a4' a5' p0' p1' p2' p3' p4' p5'
      obtain ⟨⟨a0', a1', a2', a3', a4', a5'⟩, -⟩ := six_of HA8.out
      have S2 := osame_any o0 o0 a0 a0 cap0 cap0 u8 HS8.out HS8.out HLN.out
      rw [(sameO_iff o0 o0).2 rfl] at S2
      go_wp2_with fail
      refine S2.mono ?_
      rintro e u9 ⟨rfl, hb⟩
      have HC9 := hide (bel_on' HC8.out hb)
      clear hb S2
      clear a0' a1' a2' a3' a4' a5'
      go_wp2_with fail
      refine (AWK.out _ HC9.out).mono ?_
      rintro e uz ⟨rfl, hbz⟩
      go_wp2
      go_ret
      exact ⟨rfl, bel_on' HC9.out hbz⟩
end Go.Proofs.YteefmibnkfojiaaDoor
