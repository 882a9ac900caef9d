import Derived.Test.YthfgmpooehkhgaaGreatDoorSmccmfff
import Derived.Test.YthfgmpooehkhgaaGreatDoorSmohodih
namespace Go.Proofs.YthfgmpooehkhgaaGreatDoor.Hd
open Go.ChangeShapes Go.WideShapes Go.ChangeAt Go.RowKit Go.Maps
end Go.Proofs.YthfgmpooehkhgaaGreatDoor.Hd
