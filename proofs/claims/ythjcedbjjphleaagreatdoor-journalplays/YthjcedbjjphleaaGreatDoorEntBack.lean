/-
  EntryBack: what is written is read as it was; what is read, of whatever text, is written as that.
-/
import Derived.Test.YthjcedbjjphleaaGreatDoorEntOne
namespace Go.Proofs.YthjcedbjjphleaaGreatDoor
open Go.ChangeShapes Go.WideShapes Go.ChangeAt Go.RowKit

theorem box3 {v : World} {c0 c1 c2 : Value} {W u : World} (hW : W = v.alloc (.cells #[c0, c1, c2] 32)) (hb : Below W.heap.size W u) :
    u.cell? ⟨v.heap.size, 0, none⟩ = some c0 ∧ u.cell? ⟨v.heap.size, 1, none⟩ = some c1 ∧ u.cell? ⟨v.heap.size, 2, none⟩ = some c2 := by
  refine ⟨cellL (W := W) ?_ hb, cellL (W := W) ?_ hb, cellL (W := W) ?_ hb⟩
  all_goals (rw [hW]; simp)

theorem line_of_read {s k : ByteArray} {id : Int} {l : List Int} (h : ParseR s k id l 0) : lineE k id l = 0 ∧ ((lineV k id l).toList == s.toList) = true ∧ mayB k id l = true := by
  rcases h with ⟨_, h2, h3, h4, h5⟩ | ⟨h1, _⟩
  · refine ⟨by unfold lineE; rw [if_pos h2], ?_, h2⟩
    unfold lineV
    rw [if_pos h2, ← h5]
    exact sign_read s h4
  · exact absurd rfl h1
theorem parse_none {s k : ByteArray} {id : Int} {l : List Int} {er : Int} (h : ParseR s k id l er) (he : er ≠ 0) : k = ⟨#[]⟩ ∧ l = [] := by
  rcases h with ⟨h1, _⟩ | ⟨_, h2, _, h4, _⟩
  · exact absurd h1 he
  · exact ⟨h2, h4⟩
theorem lineV_size {k : ByteArray} {id : Int} {l : List Int} : (lineV k id l).size ≤ 63 := by
  unfold lineV
  split
  · rename_i h
    rw [sign_size]
    have := txt_size h
    omega
  · exact Nat.zero_le _

end Go.Proofs.YthjcedbjjphleaaGreatDoor
