/-
  A map's entry made and then stored into (m[k] among several assignments), where the key is not there yet.
-/
import Derived.Test.YthfgmpooehkhgaaGreatDoorSpmhklnf
import Derived.Maps.OwnSet
import Derived.WideKeyEntry
namespace Go.Proofs.YthfgmpooehkhgaaGreatDoor
open Go Go.RowKit Go.Maps Go.WideElems Go.ChangeMaps

end Go.Proofs.YthfgmpooehkhgaaGreatDoor
