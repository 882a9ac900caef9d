/-
  Contracts: the law's plan and back: what Plan and Back tell, at most n of it.
-/
import Derived.Test.YtdoejppnifoebaaFlwP
import Derived.Test.YtdoejppnifoebaaFlwA
import Derived.Maps.OwnIn
namespace Go.Proofs.Ytdoejppnifoebaa
open Go.ChangeShapes Go.WideShapes Go.ChangeAt Go.RowKit Go.Shelf

attribute [local go_sem] Oper.semAt_some

/-- What the loop has, pre having come: the boxes of l and n, the row. -/
def TA (w : World) (n N1 : Nat) (pre : List (Int × Int)) (W : World) : Prop :=
  (∃ v, Boxed W (w.heap.size + 2) 25 v ∧ W.ownsRow N1 33 2 v pre.length (stCells pre)) ∧ Boxed W (w.heap.size + 1) 3 (.int .i64 (n : Int)) ∧ pre.length ≤ n ∧ Below w.heap.size w W ∧ N1 ≤ W.heap.size
theorem TA.own {w : World} {n N1 X : Nat} (hX : w.heap.size ≤ X) : OwnFrom X (TA w n N1) := fun pre W W' row hs hg hr => by
  obtain ⟨⟨v, h1, h2⟩, h3, h4, h6, h7⟩ := hs
  refine ⟨⟨v, (cells_stay hg hr h1).trans h1, row_stays h2 (fun k cs _ hc => cells_stay hg hr hc)⟩, (cells_stay hg hr h3).trans h3, h4, ?_, Nat.le_trans h7 hg.size⟩
  exact h6.grown hg h6.size (fun k e => Nat.le_trans hX (hr k e).1)
theorem typ_neA : 3 ≠ 33 ∧ 25 ≠ 33 := by decide
theorem cell_two_newA (w : World) (x y : Value) (t : TypeId) : ∀ j u, [x, y][j]? = some u → (w.alloc (.cells #[x, y] t)).cell? ((⟨w.heap.size, 0, none⟩ : Addr).add j) = some u := by
  intro j u hj
  rw [st_add', Nat.zero_add]
  have e : (w.alloc (.cells #[x, y] t)).heap[w.heap.size]? = some (.cells #[x, y] t (0, 0)) := World.alloc_heap_new w _
  rw [cell_of e]
  simpa using hj
theorem stCells_snoc (l : List (Int × Int)) (x : Int × Int) : stCells (l ++ [x]) = stCells l ++ [.int .i64 x.1, .int .i64 x.2] := by simp [stCells]

/-- What is handed back: the row of xs, the call's own. -/
def OwnActs (w : World) (xs : List (Int × Int)) (e : Ending) (w' : World) : Prop :=
  ∃ a c, e = .returned (.slice a xs.length c) ∧ xs.length ≤ c ∧ w'.ownsRow w.heap.size 33 2 (.slice a xs.length c) xs.length (stCells xs) ∧ Below w.heap.size w w'
theorem tell_end {w W : World} {n N1 D : Nat} {xs ys : List (Int × Int)} {a : Option Addr} {c : Nat} (hN : w.heap.size ≤ N1) (hD : N1 ≤ D) (hK : W.heap[D]? = some (.deferred (some []))) (hrow : W.ownsRow N1 33 2 (.slice a xs.length c) xs.length (stCells xs)) (hT : TA w n N1 xs W) (he : xs = ys) :
    OwnActs w ys (.returned (.slice a xs.length c)) (W.putObj D (.deferred none)) := by
  subst he
  obtain ⟨_, _, _, h6, h7⟩ := hT
  have h8 := ownsRow_putObj hrow (.deferred none) hK rfl
  refine ⟨a, c, rfl, ?_, ⟨h8.1, ?_⟩, h6.trans ⟨rfl, rfl, rfl, by simp, fun k hk => World.putObj_heap_other (by omega)⟩⟩
  · obtain ⟨a', c', e, hc⟩ := row_slice hrow
    cases e
    exact hc
  · rcases h8.2 with h | ⟨g, cap, cur, h1, h2, h3⟩
    · exact .inl h
    · exact .inr ⟨g, cap, cur, h1, Nat.le_trans hN h2, h3⟩

/-- An act appended. -/
theorem tell_step {w W w4 : World} {n N1 : Nat} {pre : List (Int × Int)} {x : Int × Int} {v v' : Value} (hN1 : w.heap.size + 3 ≤ N1) (hNW : N1 ≤ W.heap.size)
    (hbx : Boxed W (w.heap.size + 2) 25 v) (hrow : W.ownsRow N1 33 2 v pre.length (stCells pre)) (hbn : Boxed W (w.heap.size + 1) 3 (.int .i64 (n : Int))) (hlt : pre.length < n) (hB : Below w.heap.size w W)
    {o : Obj} (hg : (W.alloc o).grownBy w4 v.ownBlock) (hown : w4.ownsRow N1 33 2 v' (pre.length + 1) (stCells pre ++ [.int .i64 x.1, .int .i64 x.2])) :
    Boxed w4 (w.heap.size + 2) 25 v ∧ TA w n N1 (pre ++ [x]) (w4.setCell ⟨w.heap.size + 2, 0, none⟩ v') ∧ Kept 33 (fun k => k = w.heap.size + 2) W (w4.setCell ⟨w.heap.size + 2, 0, none⟩ v') := by
  have hvb : ∀ k, v.ownBlock = some k → N1 ≤ k ∧ ∃ cs, W.heap[k]? = some (Obj.cells cs 33 (0, 0)) := fun k e => by
    refine ⟨(hrow.lt k e).1, ?_⟩
    rcases hrow.2 with ⟨rfl, _⟩ | ⟨g, cap, cur, rfl, _, hc, _⟩
    · simp [Value.ownBlock] at e
    · simp [Value.ownBlock] at e; subst e; exact ⟨cur, hc⟩
  have k4 : ∀ k, k < W.heap.size → v.ownBlock ≠ some k → w4.heap[k]? = W.heap[k]? := fun k hk hne => by
    rw [hg.block k (by simp; omega) (fun e => hne e.symm)]
    exact Below.heap_alloc _ _ _ hk
  have hbx4 : Boxed w4 (w.heap.size + 2) 25 v := (k4 _ hbx.lt (fun e => by have := (hvb _ e).1; omega)).trans hbx
  have k5 : ∀ k, k < W.heap.size → v.ownBlock ≠ some k → k ≠ w.heap.size + 2 → (w4.setCell ⟨w.heap.size + 2, 0, none⟩ v').heap[k]? = W.heap[k]? := fun k hk hne hk1 => by
    rw [Below.heap_setCell _ _ _ _ (show k ≠ (⟨w.heap.size + 2, 0, none⟩ : Addr).block from hk1)]
    exact k4 k hk hne
  have hsz : W.heap.size ≤ w4.heap.size := by have := hg.size; simp at this; omega
  refine ⟨hbx4, ⟨⟨v', hbx4.set v', ?_⟩, ?_, by simp; omega, ?_, by simp; omega⟩, ⟨hg.os, hg.tape, hg.output, by simpa using hsz, fun k o hk hx hc => ?_⟩⟩
  · rw [stCells_snoc, List.length_append, List.length_singleton]
    refine row_stays hown (fun k cs _ hc => Below.heap_setCell _ _ _ _ (fun e => ?_))
    subst e
    rw [show w4.heap[w.heap.size + 2]? = _ from hbx4] at hc
    simp only [Option.some.injEq, Obj.cells.injEq] at hc
    exact typ_neA.2 hc.2.1
  · exact (k5 _ hbn.lt (fun e => by have := (hvb _ e).1; omega) (by omega)).trans hbn
  · exact ⟨hg.os.trans hB.os, hg.tape.trans hB.tape, hg.output.trans hB.output, by have := hB.size; simp; omega, fun k hk => (k5 k (by have := hB.size; omega) (fun e => by have := (hvb k e).1; omega) (by omega)).trans (hB.block k hk)⟩
  · refine (k5 k (Array.getElem?_eq_some_iff.1 hk).1 (fun e => ?_) hx).trans hk
    obtain ⟨_, cs, hcs⟩ := hvb k e
    rw [hk] at hcs
    cases hcs
    exact hc _ _ rfl

end Go.Proofs.Ytdoejppnifoebaa
