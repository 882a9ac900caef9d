/-
  Plan and Back of package flow: what they hand back, to range over.
-/
import Derived.Test.YtdoejppnifoebaaFlwJ
import Derived.Deep.QuietTactic
import Derived.Deep.RegionWith
import Derived.BigQuiet
namespace Go.Proofs.Ytdoejppnifoebaa
open Go.ChangeShapes Go.WideShapes Go.ChangeAt Go.RowKit Go.Shelf

def allocs (w : World) : List Obj → World
  | [] => w
  | o :: l => allocs (w.alloc o) l
theorem allocs_below : ∀ (l : List Obj) (w : World), Below w.heap.size w (allocs w l)
  | [], _ => Below.refl _ _
  | o :: l, w => bel_on' ((Below.refl _ _).alloc (Nat.le_refl _) _) (allocs_below l (w.alloc o))
theorem allocs_size : ∀ (l : List Obj) (w : World), (allocs w l).heap.size = w.heap.size + l.length
  | [], _ => rfl
  | o :: l, w => by rw [allocs, allocs_size l]; simp; omega
theorem allocs_at : ∀ (l : List Obj) (w : World) (i : Nat) (o : Obj), l[i]? = some o → (allocs w l).heap[w.heap.size + i]? = some o
  | [], w, i, o, h => by simp at h
  | o' :: l, w, 0, o, h => by
    simp at h
    subst h
    rw [allocs, Nat.add_zero, (allocs_below l (w.alloc o')).block _ (by simp)]
    exact World.alloc_heap_new w _
  | o' :: l, w, i + 1, o, h => by
    have := allocs_at l (w.alloc o') i o (by simpa using h)
    rw [allocs]
    rwa [World.size_alloc, show w.heap.size + 1 + i = w.heap.size + (i + 1) by omega] at this

theorem planL_may {o : Od} (h : mayO o = true) : planL o = upL 1 0 o.steps.length ++ [(6, 0), (9, 0), (15, 0)] := by
  have e : ∀ k j, doL j k = upL 1 j k := by
    intro k
    induction k with
    | zero => intro j; rfl
    | succ k ih => intro j; rw [doL, upL, ih]
  unfold planL
  rw [if_pos h, e]
theorem backL_may {o : Od} (h : mayO o = true) : backL o = (10, 0) :: dnL 4 o.steps.length := by
  have e : ∀ k, undoL k = dnL 4 k := by
    intro k
    induction k with
    | zero => rfl
    | succ k ih => rw [undoL, dnL, ih]
  unfold backL
  rw [if_pos h, e]
theorem planL_not {o : Od} (h : mayO o = false) : planL o = [] := by unfold planL; rw [h]; rfl
theorem backL_not {o : Od} (h : mayO o = false) : backL o = [] := by unfold backL; rw [h]; rfl

theorem below_drew {w v : World} (h : Below w.heap.size w v) : Below w.heap.size w v.drew := h.drew
end Go.Proofs.Ytdoejppnifoebaa
