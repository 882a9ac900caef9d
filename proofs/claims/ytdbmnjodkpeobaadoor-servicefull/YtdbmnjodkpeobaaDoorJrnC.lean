/-
  Contracts: journal.tear, cut, Crash.
-/
import Derived.Test.YtdbmnjodkpeobaaDoorJrnB
import Derived.BigRegion
namespace Go.Proofs.YtdbmnjodkpeobaaDoor
open Go.ChangeShapes Go.WideShapes Go.ChangeAt Go.RowKit

/-- So many bytes are left of a torn line. -/
def tearN (s : ByteArray) (n : Int) : Nat := (min (max n 0) ((s.size : Int) - 1)).toNat

/-- A row whose end is cut off: the cells ahead lie as they lay. -/
theorem heap_setCells (g : Nat) (t : TypeId) : ∀ (vs : List Value) (o : Nat) (w : World) (cs : Array Value), w.heap[g]? = some (.cells cs t (0, 0)) → o + vs.length ≤ cs.size →
    ∃ cs', (w.setCells g o vs).heap[g]? = some (.cells cs' t (0, 0)) ∧ cs'.size = cs.size ∧ ∀ j, cs'[j]? = if o ≤ j ∧ j < o + vs.length then vs[j - o]? else cs[j]?
  | [], o, w, cs, h, _ => ⟨cs, h, rfl, fun j => by rw [if_neg (by simp)]⟩
  | v :: r, o, w, cs, h, hl => by
    obtain ⟨cs', h1, h2, h3⟩ := heap_setCells g t r (o + 1) (w.setCell ⟨g, o, none⟩ v) (cs.setIfInBounds o v) (heap_setCell_same _ _ _ _ _ _ h) (by simp at hl ⊢; omega)
    refine ⟨cs', h1, by simpa using h2, fun j => ?_⟩
    rw [h3 j]
    by_cases hj : j = o
    · subst hj
      rw [if_neg (by omega), if_pos (by simp)]
      simp at hl
      simp [show j < cs.size by omega]
    · by_cases hin : o + 1 ≤ j ∧ j < o + 1 + r.length
      · rw [if_pos hin, if_pos (by simp; omega)]
        rw [show j - o = (j - (o + 1)) + 1 by omega]
        simp
      · rw [if_neg hin, if_neg (by simp; omega)]
        rw [Array.getElem?_setIfInBounds_ne (by omega)]

theorem setCells_rest (g : Nat) : ∀ (vs : List Value) (o : Nat) (w : World), ((w.setCells g o vs).os = w.os ∧ (w.setCells g o vs).tape = w.tape ∧ (w.setCells g o vs).output = w.output ∧ (w.setCells g o vs).heap.size = w.heap.size) ∧ ∀ k, k ≠ g → (w.setCells g o vs).heap[k]? = w.heap[k]?
  | [], _, _ => ⟨⟨rfl, rfl, rfl, rfl⟩, fun _ _ => rfl⟩
  | v :: r, o, w => by
    obtain ⟨⟨h1, h2, h3, h4⟩, h5⟩ := setCells_rest g r (o + 1) (w.setCell ⟨g, o, none⟩ v)
    exact ⟨⟨h1, h2, h3, h4.trans (by simp)⟩, fun k hk => (h5 k hk).trans (Below.heap_setCell _ _ _ _ (show k ≠ (⟨g, o, none⟩ : Addr).block from hk))⟩

theorem Jr.deleted {B : Nat} {u : World} {p : Nat} {v : Value} {room : Int} {L : List ByteArray} {sure : Nat} {down : Bool} (h : Jr B u p v room L sure down) {n : Nat} {a1 : Option Addr} {c1 : Nat} {w1 : World}
    (ho : w1.ownsRow B 9 1 (.slice a1 n c1) (L.take n).length ((L.take n).map Value.string)) (hg : u.grownBy w1 v.ownBlock) (hat : (Value.slice a1 n c1).ownBlock = v.ownBlock) :
    Jr B (w1.setCell ⟨p, 1, none⟩ (.slice a1 n c1)) p (.slice a1 n c1) room (L.take n) sure down ∧ Off p v (.slice a1 n c1) u (w1.setCell ⟨p, 1, none⟩ (.slice a1 n c1)) ∧ w1.cell? ⟨p, 1, none⟩ = some v ∧ w1.frozen? ⟨p, 1, none⟩ = false := by
  have hp1 : w1.heap[p]? = u.heap[p]? := hg.block p h.lt (fun e => h.apart e.symm)
  refine ⟨h.setRow (L' := L.take n) hp1 ho (by have := h.2.2.2.2.1; simp; omega) (fun x hx => h.2.2.2.2.2 x (List.mem_of_mem_take hx)), (Off.grown hg (.inl hat)).setCell 1 _, ?_, frozen_of_row _ _ _ _ _ (hp1.trans h.1)⟩
  rw [cell_of (hp1.trans h.1)]; rfl

end Go.Proofs.YtdbmnjodkpeobaaDoor
