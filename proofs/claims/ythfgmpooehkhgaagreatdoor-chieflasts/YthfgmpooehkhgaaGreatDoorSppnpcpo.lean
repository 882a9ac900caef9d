/-
  Contracts of hold's Take and Back.
-/
import Derived.Test.YthfgmpooehkhgaaGreatDoorSpccmfff
import Derived.Test.YthfgmpooehkhgaaGreatDoorSpohodih
namespace Go.Proofs.YthfgmpooehkhgaaGreatDoor.Hd
open Go.ChangeShapes Go.WideShapes Go.ChangeAt Go.RowKit Go.Maps

theorem wf_of {a : Int} (h1 : -9223372036854775808 ≤ a) (h2 : a ≤ 9223372036854775807) : (Lit.int .i64 a).wf = true := WalkArith.wf_i64 ⟨h1, h2⟩

end Go.Proofs.YthfgmpooehkhgaaGreatDoor.Hd
