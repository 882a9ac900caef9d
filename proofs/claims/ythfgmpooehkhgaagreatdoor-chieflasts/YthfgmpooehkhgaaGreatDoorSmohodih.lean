import Derived.Test.YthfgmpooehkhgaaGreatDoorSmmhklnf
import Derived.Maps.OwnSet
import Derived.WideKeyEntry
namespace Go.Proofs.YthfgmpooehkhgaaGreatDoor
open Go Go.RowKit Go.Maps Go.WideElems Go.ChangeMaps
end Go.Proofs.YthfgmpooehkhgaaGreatDoor
