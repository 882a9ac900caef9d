import Derived.Test.YthfgmpooehkhgaaGreatDoorSmjenjnf
import Derived.Test.YthfgmpooehkhgaaGreatDoorSmfnibcf
namespace Go.Proofs.YthfgmpooehkhgaaGreatDoor.Hd
open Go.ChangeShapes Go.WideShapes Go.ChangeAt Go.RowKit Go.Maps
end Go.Proofs.YthfgmpooehkhgaaGreatDoor.Hd
