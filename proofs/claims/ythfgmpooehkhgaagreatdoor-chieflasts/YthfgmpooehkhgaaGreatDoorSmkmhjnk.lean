import Derived.Test.YthfgmpooehkhgaaGreatDoorRows
import Derived.WalkKit
import Derived.ProofKit
namespace Go.Proofs.YthfgmpooehkhgaaGreatDoor
open Go.RowKit
def um(a m:Int):Int:=wrap64 ((IntKind.u64.wrap a).tmod m)
end Go.Proofs.YthfgmpooehkhgaaGreatDoor
