/-
  Plain facts on the numbers that a law makes of any integer: int(uint64(a) % m).
-/
import Derived.Test.YthfgmpooehkhgaaGreatDoorRows
import Derived.WalkKit
import Derived.ProofKit
namespace Go.Proofs.YthfgmpooehkhgaaGreatDoor
open Go.RowKit

/-- int(uint64(a) % m) -/
def um (a m : Int) : Int := wrap64 ((IntKind.u64.wrap a).tmod m)
end Go.Proofs.YthfgmpooehkhgaaGreatDoor
