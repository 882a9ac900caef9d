/-
  The law's awake returns true.
-/
import Derived.Test.YtdoejppnifoebaaFlwG
import Derived.Test.YtdoejppnifoebaaFlwT
namespace Go.Proofs.Ytdoejppnifoebaa
open Go.ChangeShapes Go.WideShapes Go.ChangeAt Go.RowKit

def odF : Od := ⟨1, 0, 1, 0, 1, [(6, 1)]⟩
theorem odF_facts : legalO odF [(2, 0), (16, 0)] = 1 ∧ ((planL odF).take 9).length = 4 ∧ ((backL odF).take 9).length = 2 := by decide
theorem sts_two (w : World) (x1 x2 y1 y2 : Int) (t : TypeId) : Sts (w.alloc (.cells #[.int .i64 x1, .int .i64 x2, .int .i64 y1, .int .i64 y2] t)) (some ⟨w.heap.size, 0, none⟩) [(x1, x2), (y1, y2)] :=
  .inr ⟨w.heap.size, 0, rfl, fun i hi => by
    have e : (w.alloc (.cells #[.int .i64 x1, .int .i64 x2, .int .i64 y1, .int .i64 y2] t)).heap[w.heap.size]? = some (.cells #[.int .i64 x1, .int .i64 x2, .int .i64 y1, .int .i64 y2] t (0, 0)) := World.alloc_heap_new w _
    rw [cell_of e, cell_of e]
    match i, hi with
    | 0, _ => exact ⟨rfl, rfl⟩
    | 1, _ => exact ⟨rfl, rfl⟩
    | i + 2, hi => simp at hi; omega⟩
theorem order_of_six {u : World} {n : Nat} {t : TypeId} {v0 v1 v2 v3 v4 v5 : Value} (h : u.heap[n]? = some (.cells #[v0, v1, v2, v3, v4, v5] t (0, 0))) : u.cell? ⟨n, 0, none⟩ = some v0 ∧ u.cell? ⟨n, 1, none⟩ = some v1 ∧ u.cell? ⟨n, 2, none⟩ = some v2 ∧ u.cell? ⟨n, 3, none⟩ = some v3 ∧ u.cell? ⟨n, 4, none⟩ = some v4 ∧ u.cell? ⟨n, 5, none⟩ = some v5 := (past_of h).1

end Go.Proofs.Ytdoejppnifoebaa
