/-
  Rows of steps that the call owns: read as a list; appended to.
-/
import Derived.Test.YtdoejppnifoebaaRowS
import Derived.Test.YtdoejppnifoebaaOrdC
import Derived.Laws.AppendOwnNone
import Derived.Maps.AppendAt
import Derived.Deep.OwnRows
namespace Go.Proofs.Ytdoejppnifoebaa
open Go.ChangeShapes Go.WideShapes Go.ChangeAt Go.RowKit

def stCells (l : List (Int × Int)) : List Value := l.flatMap fun x => [.int .i64 x.1, .int .i64 x.2]
theorem Try.infoStep : (Try.prog.info? 39).map (fun i => (i.zero, i.size, i.bytes)) = some (some (.agg #[.int .i64 0, .int .i64 0]), 2, 16) := by kernel_rfl
theorem stCells_append (l m : List (Int × Int)) : stCells (l ++ m) = stCells l ++ stCells m := by simp [stCells]
theorem stCells_len (l : List (Int × Int)) : (stCells l).length = l.length * 2 := by
  induction l with
  | nil => rfl
  | cons x l ih => rw [show stCells (x :: l) = [.int .i64 x.1, .int .i64 x.2] ++ stCells l by simp [stCells]]; simp [ih]; omega
theorem stAt_succ (x : Int × Int) (l : List (Int × Int)) (i : Nat) : stAt (x :: l) (i + 1) = stAt l i := by simp [stAt]
theorem stCells_at : ∀ (l : List (Int × Int)) (i : Nat), i < l.length → (stCells l)[i * 2]? = some (.int .i64 (stAt l i).1) ∧ (stCells l)[i * 2 + 1]? = some (.int .i64 (stAt l i).2)
  | [], i, h => by simp at h
  | y :: r, 0, _ => by simp [stCells, stAt]
  | y :: r, i + 1, h => by
    have ih := stCells_at r i (by simpa using h)
    have e : stCells (y :: r) = [.int .i64 y.1, .int .i64 y.2] ++ stCells r := by simp [stCells]
    rw [e, show (i + 1) * 2 = i * 2 + 2 by omega, stAt_succ]
    refine ⟨?_, ?_⟩
    · rw [List.getElem?_append_right (by simp)]; simpa using ih.1
    · rw [List.getElem?_append_right (by simp)]; simpa using ih.2
theorem stCells_get {l : List (Int × Int)} {j : Nat} {u : Value} (h : (stCells l)[j]? = some u) : ∃ i, i < l.length ∧ ((j = i * 2 ∧ u = .int .i64 (stAt l i).1) ∨ (j = i * 2 + 1 ∧ u = .int .i64 (stAt l i).2)) := by
  have hj : j < l.length * 2 := by
    have := (List.getElem?_eq_some_iff.1 h).1
    rwa [stCells_len] at this
  obtain ⟨h1, h2⟩ := stCells_at l (j / 2) (by omega)
  refine ⟨j / 2, by omega, ?_⟩
  rcases Nat.mod_two_eq_zero_or_one j with e | e
  · have ej : j / 2 * 2 = j := by omega
    rw [ej, h] at h1
    exact .inl ⟨ej.symm, Option.some.inj h1⟩
  · have ej : j / 2 * 2 + 1 = j := by omega
    rw [ej, h] at h2
    exact .inr ⟨ej.symm, Option.some.inj h2⟩

theorem row_sts {W : World} {base : Nat} {a : Option Addr} {c : Nat} {l : List (Int × Int)} (h : W.ownsRow base 39 2 (.slice a l.length c) l.length (stCells l)) : Sts W a l := by
  have hc := fun g hg => h.cells (g := g) hg
  rcases h.2 with ⟨_, h1⟩ | ⟨g, cap, cur, e, hb, hcur, _⟩
  · exact .inl (List.eq_nil_of_length_eq_zero h1)
  · cases e
    refine .inr ⟨g, 0, rfl, fun i hi => ?_⟩
    obtain ⟨e1, e2⟩ := stCells_at l i hi
    have c1 := hc g rfl _ _ e1
    have c2 := hc g rfl _ _ e2
    rw [st_add'] at c1 c2
    exact ⟨c1, c2⟩
theorem sts_news {w : World} {ad : Addr} {m : List (Int × Int)} (h : Sts w (some ad) m) : ∀ j u, (stCells m)[j]? = some u → w.cell? (ad.add j) = some u := by
  intro j u hu
  obtain ⟨i, hi, hh⟩ := stCells_get hu
  obtain ⟨b, off, e, h0, h1⟩ := h.at hi
  cases e
  rw [st_add']
  rcases hh with ⟨rfl, rfl⟩ | ⟨rfl, rfl⟩
  · exact h0
  · exact h1

theorem append_sts {w : World} {ops : Array Oper} {rest : List Oper} {o : Oper} {a : Act} {Q : Exit → Act → World → Prop} (hgd : o.guard = none) (s x : Operand)
    (ho : o.op = .call { callee := .builtin .append, args := #[s, x], argTypes := #[22, 22] })
    (base : Nat) (v : Value) (L : List (Int × Int)) (hs : a.eval s = v) (hown : w.ownsRow base 39 2 v L.length (stCells L)) (ad : Addr) (m : List (Int × Int)) (c : Nat) (hx : a.eval x = .slice (some ad) m.length c)
    (hm : Sts w (some ad) m) (hb : L.length + m.length ≤ 1000000) (hbase : base ≤ w.heap.size)
    (h : ∀ a' c' w', w'.ownsRow base 39 2 (.slice a' (L.length + m.length) c') (L ++ m).length (stCells (L ++ m)) → w.grownBy w' v.ownBlock → wpList Try.prog ops Q rest (a.put o.dst (.slice a' (L.length + m.length) c')) w') : wpList Try.prog ops Q (o :: rest) a w := by
  obtain ⟨i0, hi, hz0, hz1, hz2⟩ := info_parts Try.infoStep
  refine wpList_append_own_at _ hgd s x 22 ho base 39 i0 _ 2 16 Try.underlying22 hi hz0 hz1 hz2 rfl (by decide) v L.length (stCells L) hs hown ad m.length c (stCells m) hx (stCells_len m) (sts_news hm) ?_ (by unfold maxLen; omega) (by omega) hbase ?_
  · intro u hu
    unfold stCells at hu
    rw [List.mem_flatMap] at hu
    obtain ⟨y, _, hy⟩ := hu
    simp at hy
    rcases hy with rfl | rfl <;> rfl
  · intro v' w' h1 h2 _ _
    obtain ⟨a', c', rfl, _⟩ := row_slice h1
    refine h a' c' w' ?_ h2
    rw [stCells_append, List.length_append]
    exact h1
/-- One step more. -/
theorem append_st1 {w : World} {ops : Array Oper} {rest : List Oper} {o : Oper} {a : Act} {Q : Exit → Act → World → Prop} (hgd : o.guard = none) (s x : Operand)
    (ho : o.op = .call { callee := .builtin .append, args := #[s, x], argTypes := #[22, 22] })
    (base : Nat) (v : Value) (L : List (Int × Int)) (hs : a.eval s = v) (hown : w.ownsRow base 39 2 v L.length (stCells L)) (ad : Addr) (y : Int × Int) (c : Nat) (hx : a.eval x = .slice (some ad) 1 c)
    (hm : Sts w (some ad) [y]) (hb : L.length + 1 ≤ 1000000) (hbase : base ≤ w.heap.size)
    (h : ∀ a' c' w', w'.ownsRow base 39 2 (.slice a' (L.length + 1) c') (L ++ [y]).length (stCells (L ++ [y])) → w.grownBy w' v.ownBlock → wpList Try.prog ops Q rest (a.put o.dst (.slice a' (L.length + 1) c')) w') : wpList Try.prog ops Q (o :: rest) a w :=
  append_sts hgd s x ho base v L hs hown ad [y] c hx hm hb hbase h
theorem sts_one (w : World) (x1 x2 : Int) : Sts (w.alloc (.cells #[.int .i64 x1, .int .i64 x2] 39)) (some ⟨w.heap.size, 0, none⟩) [(x1, x2)] :=
  .inr ⟨w.heap.size, 0, rfl, fun i hi => by
    have h0 : i = 0 := by simp at hi; exact hi
    subst h0
    simp [stAt]⟩
end Go.Proofs.Ytdoejppnifoebaa
