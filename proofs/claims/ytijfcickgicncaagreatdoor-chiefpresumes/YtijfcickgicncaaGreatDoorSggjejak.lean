/-
  A chief, plainly: an order that is rung for.
-/
import Derived.Test.YtijfcickgicncaaGreatDoorSglcfnmn
namespace Go.Proofs.YtijfcickgicncaaGreatDoor
open Go.RowKit Sg Bl

section
variable {T i : Int} {v : Ch} {o : Od} {f : Fa} {y : Option (Bool × Bool)} {n : Nat}
end
end Go.Proofs.YtijfcickgicncaaGreatDoor
