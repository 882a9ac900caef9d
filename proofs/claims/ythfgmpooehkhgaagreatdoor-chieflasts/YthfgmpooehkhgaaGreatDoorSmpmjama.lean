import Derived.Test.YthfgmpooehkhgaaGreatDoorSmaldlmb
import Derived.Test.YthfgmpooehkhgaaGreatDoorSmikfnbn
namespace Go.Proofs.YthfgmpooehkhgaaGreatDoor
open Go.ChangeShapes Go.WideShapes Go.ChangeAt Go.RowKit
theorem silent_bd(y:Nat→Bool)(k:Nat):(silent y k).length ≤k:=by have:=silent_len y k;omega
theorem twaitsnil_any(w:World):Calls Tryz.prog 218 #[.pointer none] w fun e w'=>e= .returned (.slice none 0 0)∧w=w':=by
 go_enter Tryz.func218,Tryz.ntmps218
 go_wp2
 go_ret
 exact⟨rfl,rfl⟩
end Go.Proofs.YthfgmpooehkhgaaGreatDoor
