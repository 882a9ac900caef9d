/-
  Rows of acts that the call owns: read as a list; appended to.
-/
import Derived.Test.YtdoejppnifoebaaOrdR
namespace Go.Proofs.Ytdoejppnifoebaa
open Go.ChangeShapes Go.WideShapes Go.ChangeAt Go.RowKit

theorem Try.infoAct : (Try.prog.info? 33).map (fun i => (i.zero, i.size, i.bytes)) = some (some (.agg #[.int .i64 0, .int .i64 0]), 2, 16) := by kernel_rfl
theorem row_acts {W : World} {base : Nat} {a : Option Addr} {c : Nat} {l : List (Int × Int)} (h : W.ownsRow base 33 2 (.slice a l.length c) l.length (stCells l)) : Sts W a l := by
  have hc := fun g hg => h.cells (g := g) hg
  rcases h.2 with ⟨_, h1⟩ | ⟨g, cap, cur, e, hb, hcur, _⟩
  · exact .inl (List.eq_nil_of_length_eq_zero h1)
  · cases e
    refine .inr ⟨g, 0, rfl, fun i hi => ?_⟩
    obtain ⟨e1, e2⟩ := stCells_at l i hi
    have c1 := hc g rfl _ _ e1
    have c2 := hc g rfl _ _ e2
    rw [st_add'] at c1 c2
    exact ⟨c1, c2⟩
theorem append_acts {w : World} {ops : Array Oper} {rest : List Oper} {o : Oper} {a : Act} {Q : Exit → Act → World → Prop} (hgd : o.guard = none) (s x : Operand)
    (ho : o.op = .call { callee := .builtin .append, args := #[s, x], argTypes := #[25, 25] })
    (base : Nat) (v : Value) (L : List (Int × Int)) (hs : a.eval s = v) (hown : w.ownsRow base 33 2 v L.length (stCells L)) (ad : Addr) (m : List (Int × Int)) (c : Nat) (hx : a.eval x = .slice (some ad) m.length c)
    (hm : Sts w (some ad) m) (hb : L.length + m.length ≤ 1000000) (hbase : base ≤ w.heap.size)
    (h : ∀ a' c' w', w'.ownsRow base 33 2 (.slice a' (L.length + m.length) c') (L ++ m).length (stCells (L ++ m)) → w.grownBy w' v.ownBlock → wpList Try.prog ops Q rest (a.put o.dst (.slice a' (L.length + m.length) c')) w') : wpList Try.prog ops Q (o :: rest) a w := by
  obtain ⟨i0, hi, hz0, hz1, hz2⟩ := info_parts Try.infoAct
  refine wpList_append_own_at _ hgd s x 25 ho base 33 i0 _ 2 16 Try.underlying25 hi hz0 hz1 hz2 rfl (by decide) v L.length (stCells L) hs hown ad m.length c (stCells m) hx (stCells_len m) (sts_news hm) ?_ (by unfold maxLen; omega) (by omega) hbase ?_
  · intro u hu
    unfold stCells at hu
    rw [List.mem_flatMap] at hu
    obtain ⟨y, _, hy⟩ := hu
    simp at hy
    rcases hy with rfl | rfl <;> rfl
  · intro v' w' h1 h2 _ _
    obtain ⟨a', c', rfl, _⟩ := row_slice h1
    refine h a' c' w' ?_ h2
    rw [stCells_append, List.length_append]
    exact h1
theorem append_act1 {w : World} {ops : Array Oper} {rest : List Oper} {o : Oper} {a : Act} {Q : Exit → Act → World → Prop} (hgd : o.guard = none) (s x : Operand)
    (ho : o.op = .call { callee := .builtin .append, args := #[s, x], argTypes := #[25, 25] })
    (base : Nat) (v : Value) (L : List (Int × Int)) (hs : a.eval s = v) (hown : w.ownsRow base 33 2 v L.length (stCells L)) (ad : Addr) (y : Int × Int) (c : Nat) (hx : a.eval x = .slice (some ad) 1 c)
    (hm : Sts w (some ad) [y]) (hb : L.length + 1 ≤ 1000000) (hbase : base ≤ w.heap.size)
    (h : ∀ a' c' w', w'.ownsRow base 33 2 (.slice a' (L.length + 1) c') (L ++ [y]).length (stCells (L ++ [y])) → w.grownBy w' v.ownBlock → wpList Try.prog ops Q rest (a.put o.dst (.slice a' (L.length + 1) c')) w') : wpList Try.prog ops Q (o :: rest) a w :=
  append_acts hgd s x ho base v L hs hown ad [y] c hx hm hb hbase h
theorem acts_one (w : World) (x1 x2 : Int) : Sts (w.alloc (.cells #[.int .i64 x1, .int .i64 x2] 33)) (some ⟨w.heap.size, 0, none⟩) [(x1, x2)] :=
  .inr ⟨w.heap.size, 0, rfl, fun i hi => by
    have h0 : i = 0 := by simp at hi; exact hi
    subst h0
    simp [stAt]⟩
/-- Of a slice that reads as l the cut from i to j. -/
theorem Sts.cut {w : World} {b off : Nat} {l : List (Int × Int)} (h : Sts w (some ⟨b, off, none⟩) l) (n : Nat) : Sts w (some ⟨b, off, none⟩) (l.take n) := by
  rcases h with h | ⟨b', off', ha, hc⟩
  · exact .inl (by rw [h]; simp)
  · cases ha
    refine .inr ⟨b, off, rfl, fun i hi => ?_⟩
    have hi' : i < l.length := by simp at hi; omega
    have e : stAt (l.take n) i = stAt l i := by
      have hn : i < n := by simp at hi; omega
      unfold stAt
      simp [List.getD, hn]
    rw [e]
    exact hc i hi'
theorem own_fresh (W : World) (base : Nat) (hb : base ≤ W.heap.size) : (W.alloc (.cells #[] 33)).ownsRow base 33 2 (.slice (some ⟨W.heap.size, 0, none⟩) 0 0) ([] : List (Int × Int)).length (stCells []) :=
  ⟨rfl, .inr ⟨W.heap.size, 0, #[], rfl, hb, by show (W.heap.push _)[W.heap.size]? = _; simp, Nat.le_refl _, by decide, rfl, rfl⟩⟩
/-- An append turns the row's own block alone. -/
theorem grown_below {B : Nat} {W w1 : World} {v : Value} {e : TypeId} {s n : Nat} {xs : List Value} (hB : B ≤ W.heap.size) (hown : W.ownsRow B e s v n xs) (hg : W.grownBy w1 v.ownBlock) : Below B W w1 :=
  (Below.refl B W).grown hg hB (fun k h => (hown.lt k h).1)
/-- A copy of a row, and one row more behind it: nothing that lay turns. -/
theorem fresh_app {A w1 w2 : World} {O : Obj} {a1 : Option Addr} {n c1 : Nat} {xs : List Value} (g1 : (A.alloc (.cells #[] 33)).grownBy w1 (Value.slice (some ⟨A.heap.size, 0, none⟩) 0 0).ownBlock) (o1 : w1.ownsRow A.heap.size 33 2 (.slice a1 n c1) n xs) (g2 : (w1.alloc O).grownBy w2 (Value.slice a1 n c1).ownBlock) : Below A.heap.size A w1 ∧ Below A.heap.size A w2 := by
  have b0 : Below A.heap.size A (A.alloc (.cells #[] 33)) := (Below.refl _ _).alloc (Nat.le_refl _) _
  have b1 : Below A.heap.size A w1 := b0.trans (grown_below (by simp) (own_fresh A A.heap.size (Nat.le_refl _)) g1)
  refine ⟨b1, ?_⟩
  have b2 : Below A.heap.size A (w1.alloc O) := b1.alloc b1.size _
  exact b2.trans (grown_below b2.size (o1.alloc _) g2)
theorem fresh_below {A w1 : World} (g1 : (A.alloc (.cells #[] 33)).grownBy w1 (Value.slice (some ⟨A.heap.size, 0, none⟩) 0 0).ownBlock) : Below A.heap.size A w1 := by
  have b0 : Below A.heap.size A (A.alloc (.cells #[] 33)) := (Below.refl _ _).alloc (Nat.le_refl _) _
  exact b0.trans (grown_below (by simp) (own_fresh A A.heap.size (Nat.le_refl _)) g1)
/-- A row of acts laid at once. -/
theorem sts_new (w : World) (l : List (Int × Int)) (cs : Array Value) (h : cs.toList = stCells l) : Sts (w.alloc (.cells cs 33)) (some ⟨w.heap.size, 0, none⟩) l := by
  refine .inr ⟨w.heap.size, 0, rfl, fun i hi => ?_⟩
  have e : (w.alloc (.cells cs 33)).heap[w.heap.size]? = some (.cells cs 33 (0, 0)) := by show (w.heap.push _)[w.heap.size]? = _; simp
  obtain ⟨e1, e2⟩ := stCells_at l i hi
  rw [cell_of e, cell_of e]
  rw [← h] at e1 e2
  simp only [Array.getElem?_toList] at e1 e2
  rw [Nat.zero_add]
  exact ⟨e1, e2⟩
end Go.Proofs.Ytdoejppnifoebaa
