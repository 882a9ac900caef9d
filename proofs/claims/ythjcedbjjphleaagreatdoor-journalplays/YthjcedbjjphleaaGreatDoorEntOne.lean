/-
  EntryOne: two entries that may be have one line just if they are the same.
-/
import Derived.Test.YthjcedbjjphleaaGreatDoorEntA
namespace Go.Proofs.YthjcedbjjphleaaGreatDoor
open Go.ChangeShapes Go.WideShapes Go.ChangeAt Go.RowKit

theorem line_one {k k' : ByteArray} {id id' : Int} {l l' : List Int} (h : mayB k id l = true) (h' : mayB k' id' l' = true) :
    ((sign (txt k id l)).toList == (sign (txt k' id' l')).toList) = sameB k id l k' id' l' := by
  rw [Bool.eq_iff_iff, same_iff, beq_iff_eq, ByteArray.toList_eq, ByteArray.toList_eq]
  constructor
  · intro e
    have e2 : txt k id l = txt k' id' l' := by
      have h1 := (read_sign (txt k id l)).2
      have h2 := (read_sign (txt k' id' l')).2
      rw [← h1, ← h2, bytes_ext e]
    exact txt_inj h h' e2
  · rintro ⟨rfl, rfl, rfl⟩
    rfl

theorem cellL {W u : World} {p : Addr} {v : Value} (h : W.cell? p = some v) (hb : Below W.heap.size W u) : u.cell? p = some v := (hb.cell (World.block_lt_of_cell? _ _ h)).trans h

theorem light_len {k : ByteArray} {l : List Int} (h : lightB k l = true) : k.size ≤ 50 ∧ l.length ≤ 20 := by
  unfold lightB at h
  simpa using h

end Go.Proofs.YthjcedbjjphleaaGreatDoor
