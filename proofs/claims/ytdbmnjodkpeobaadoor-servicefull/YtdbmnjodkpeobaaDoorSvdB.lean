/-
  Contract of service's Start.
-/
import Derived.Test.YtdbmnjodkpeobaaDoorSvdA
import Derived.Test.YtdbmnjodkpeobaaDoorRGp
import Derived.Maps.OwnIn
namespace Go.Proofs.YtdbmnjodkpeobaaDoor
open Go.ChangeShapes Go.WideShapes Go.ChangeAt Go.RowKit Go.Shelf Go.Maps

attribute [local go_sem] Oper.semAt_some

theorem ownFrom_kept {β : Type} {X : Nat} {J : β → World → Prop} (h : ∀ s W W', J s W → Rg.Kept (fun k o => X ≤ k ∧ o.isCells = false) W W' → J s W') : OwnFrom X J := fun s W W' row hs hg hr =>
  h s W W' hs ⟨hg.os, hg.tape, hg.output, hg.size, fun k o hk hx => (hg.block k (Array.getElem?_eq_some_iff.1 hk).1 (fun e => by
    obtain ⟨h1, o', h2, h3⟩ := hr k e.symm
    rw [hk] at h2
    cases h2
    exact hx ⟨h1, h3⟩)).trans hk⟩
theorem good_own (N1 X : Nat) (x : Ev) : OwnFrom X (fun (_ : Unit) W => Good N1 x W) := ownFrom_kept (fun _ _ _ hs hk =>
  ⟨hs.1.moveF (fun _ _ ⟨_, hc⟩ => (hk.block _ _ hc (fun e => by cases e.2)).trans hc.symm), hs.2⟩)
/-- What the loop of Start has, pre having come. -/
def SI (w0 w : World) (E1 : Nat → Prop) (v : Sv) (p q : Nat) (r : Value) (pb mb sb n : Nat) (w2 : World) (pre : List Ev) (W : World) : Prop :=
  NdV w0.heap.size E1 W p ⟨v.node, v.hold, v.room, v.T, false, (v.T.take pre.length).foldl stp (ini v.hold)⟩ (n + 2 * pre.length) q r pb mb sb ∧ Boxed W w.heap.size 23 (.pointer (some ⟨p, 0, none⟩)) ∧ Rg.Kept (fun k _ => E1 k) w2 W ∧ pre.length ≤ v.T.length ∧ w2.heap.size ≤ W.heap.size
theorem SI.above {w0 w : World} {E1 : Nat → Prop} {v : Sv} {p q : Nat} {r : Value} {pb mb sb n : Nat} {w1 w2 : World} {pre : List Ev} {W W' : World} {F : Nat → Obj → Prop} (hE : ∀ k, E1 k → (w0.heap.size ≤ k ∧ k < w1.heap.size) ∧ k ≠ w.heap.size) (hs : w.heap.size < w2.heap.size ∧ w1.heap.size ≤ w2.heap.size) (h : SI w0 w E1 v p q r pb mb sb n w2 pre W) (hk : Rg.Kept (fun k o => w2.heap.size ≤ k ∧ F k o) W W') : SI w0 w E1 v p q r pb mb sb n w2 pre W' := by
  obtain ⟨h1, h2, h3, h4, h5⟩ := h
  refine ⟨h1.kept hk (fun k o e1 e2 => by have := hE k e1; omega), hk.block _ _ h2 (fun e => by omega), ⟨hk.os.trans h3.os, hk.tape.trans h3.tape, hk.output.trans h3.output, Nat.le_trans h3.size hk.size, fun k o hk' hx => hk.block k o (h3.block k o hk' hx) (fun e => by have := (Array.getElem?_eq_some_iff.1 hk').1; omega)⟩, h4, Nat.le_trans h5 hk.size⟩

section
variable {E : Nat → Prop} {w0 w : World} {p : Nat} {v : Sv} {n : Nat}
end
end Go.Proofs.YtdbmnjodkpeobaaDoor
