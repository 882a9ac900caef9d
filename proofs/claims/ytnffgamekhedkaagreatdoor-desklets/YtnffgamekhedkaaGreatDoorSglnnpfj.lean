/-
  The library's contract of internal/stringslite.Clone laid at this program, and strings.Clone by it: the same bytes; memory that was there stays.
-/
import Derived.Test.YtnffgamekhedkaaGreatDoorRows
import Derived.Shelf.LaysM
import Derived.Shelf.Strconv.Clone
import Derived.WalkKit
namespace Go.Proofs.YtnffgamekhedkaaGreatDoor
open Go.Shelf Go.RowKit
end Go.Proofs.YtnffgamekhedkaaGreatDoor
