/-
  FlowTwo: of what may happen nothing is committed that is aborted, nothing undone that was not done, the last step first, nothing shipped that is not committed.
-/
import Derived.Test.YtdoejppnifoebaaFlwW
import Derived.Test.YtdoejppnifoebaaFlwD
import Derived.Test.YtdoejppnifoebaaFBegins
namespace Go.Proofs.Ytdoejppnifoebaa
open Go.ChangeShapes Go.WideShapes Go.ChangeAt Go.RowKit

/-- What the law has written down of a state. -/
def Tw (s : Fs) (Y Z D0 D1 D2 D3 U0 U1 U2 U3 : Int) : Prop :=
  (0 ≤ Y ↔ s.yes = true) ∧ (0 ≤ Z ↔ s.no = true) ∧ (0 ≤ D0 ↔ 0 < s.d) ∧ (0 ≤ D1 ↔ 1 < s.d) ∧ (0 ≤ D2 ↔ 2 < s.d) ∧ D3 < 0 ∧ (0 ≤ U0 ↔ s.u ≤ 0 ∧ 0 < s.d) ∧ (0 ≤ U1 ↔ s.u ≤ 1 ∧ 1 < s.d) ∧ (0 ≤ U2 ↔ s.u ≤ 2 ∧ 2 < s.d) ∧ U3 < 0
theorem tw_start : Tw fs0 (-1) (-1) (-1) (-1) (-1) (-1) (-1) (-1) (-1) (-1) := by unfold Tw fs0; simp
theorem four_of {u : World} {n : Nat} {t : TypeId} {v0 v1 v2 v3 : Value} (h : u.heap[n]? = some (.cells #[v0, v1, v2, v3] t (0, 0))) : (u.cell? ⟨n, 0, none⟩ = some v0 ∧ u.cell? ⟨n, 1, none⟩ = some v1 ∧ u.cell? ⟨n, 2, none⟩ = some v2 ∧ u.cell? ⟨n, 3, none⟩ = some v3) ∧ (u.frozen? ⟨n, 0, none⟩ = false ∧ u.frozen? ⟨n, 1, none⟩ = false ∧ u.frozen? ⟨n, 2, none⟩ = false ∧ u.frozen? ⟨n, 3, none⟩ = false) := by
  refine ⟨⟨?_, ?_, ?_, ?_⟩, frozen_of_row _ _ _ _ _ h, frozen_of_row _ _ _ _ _ h, frozen_of_row _ _ _ _ _ h, frozen_of_row _ _ _ _ _ h⟩
  all_goals (rw [cell_of h]; rfl)
theorem sa_same {wr : World} {g i : Nat} {v : Value} {cs : Array Value} {t : TypeId} (o : Obj) (h : wr.heap[g]? = some (.cells cs t (0, 0))) : ((wr.setCell ⟨g, i, none⟩ v).alloc o).heap[g]? = some (.cells (cs.setIfInBounds i v) t (0, 0)) := by
  have h1 := heap_setCell_same wr g i cs t v h
  rw [Below.heap_alloc _ _ _ (Array.getElem?_eq_some_iff.1 h1).1]
  exact h1
theorem sa_other {wr : World} {g i k : Nat} {v : Value} {x : Obj} (o : Obj) (h : wr.heap[k]? = some x) (hk : k ≠ g) : ((wr.setCell ⟨g, i, none⟩ v).alloc o).heap[k]? = some x := by
  have h1 := (Below.heap_setCell wr ⟨g, i, none⟩ v k hk).trans h
  rw [Below.heap_alloc _ _ _ (Array.getElem?_eq_some_iff.1 h1).1]
  exact h1
theorem sa_below {w wr : World} {g i : Nat} {v : Value} (o : Obj) (h : Below w.heap.size w wr) (hg : w.heap.size ≤ g) : Below w.heap.size w ((wr.setCell ⟨g, i, none⟩ v).alloc o) := by
  have h1 := h.setCell (p := ⟨g, i, none⟩) hg v
  exact h1.alloc h1.size _
theorem two_next {o : Od} {l : List (Int × Int)} {i : Nat} {s : Fs} (hi : i < legalO o l) (hl : i < l.length) (h : goF o.steps.length fs0 (l.take i) = some s) :
    mayO o = true ∧ ∃ s', seeF o.steps.length s (stAt l i) = some s' ∧ goF o.steps.length fs0 (l.take (i + 1)) = some s' := by
  unfold legalO at hi
  split at hi
  · rename_i hm
    refine ⟨hm, ?_⟩
    obtain ⟨s', hs'⟩ := goF_take o.steps.length l fs0 (i + 1) (by omega)
    refine ⟨s', ?_, hs'⟩
    rw [goF_next hl h, ← stAt_get hl] at hs'
    exact hs'
  · omega

end Go.Proofs.Ytdoejppnifoebaa
