/-
  Contracts: journal.entries, All: what it hands back goes over the entries.
-/
import Derived.Test.YtdbmnjodkpeobaaDoorJrnE
namespace Go.Proofs.YtdbmnjodkpeobaaDoor
open Go.ChangeShapes Go.WideShapes Go.ChangeAt Go.RowKit Go.Shelf

attribute [local go_sem] Oper.semAt_some

theorem linesAt_of {w w1 : World} {a : Option Addr} {c : Nat} {L : List ByteArray} (h : w1.ownsRow w.heap.size 9 1 (.slice a L.length c) L.length (L.map Value.string)) : LinesAt w.heap.size w1.heap.size w1 a L := by
  obtain ⟨a', c', e, h1, h2, h3⟩ := owned_strs h
  cases e
  rcases h3 with h3 | ⟨b, off, rfl, hc⟩
  · exact .inl h3
  · have := h.lt b (by simp [Value.ownBlock])
    exact .inr ⟨b, off, rfl, this, hc⟩

theorem abides {J : List Ev → World → Prop} {X : Nat} (h : AbidesFrom X J) : ∀ s W W', J s W → Below W.heap.size W W' → J s W' :=
  fun s W W' hs hb => h s W W' none hs ⟨hb.os, hb.tape, hb.output, hb.size, fun k hk _ => hb.block k hk⟩ (fun r e => by cases e)

end Go.Proofs.YtdbmnjodkpeobaaDoor
