import Derived.Test.YthfgmpooehkhgaaGreatDoorRows
import Derived.ProofKit
import Derived.BigQuiet
import Derived.WalkLawsBesides
namespace Go.Proofs.YthfgmpooehkhgaaGreatDoor
open Go.RowKit
def Later(w:World):Type:={u:World//Below w.heap.size w u}
def Later.w{w:World}(u:Later w):World:=u.1
theorem Later.below{w:World}(u:Later w):Below w.heap.size w u.w:=u.2
def Later.drew{w:World}(u:Later w):Later w:=⟨u.w.drew,u.below.drew⟩
def Later.now(w:World):Later w:=⟨w,Below.refl _ _⟩
theorem Later.cell{w:World}{a:Addr}{v:Value}(h:w.cell? a=some v)(u:Later w):u.w.cell? a=some v:=
 (u.below.cell (World.block_lt_of_cell? _ _ h)).trans h
theorem region_later{P:Program}{id:Nat}{Q:Exit→Act→World→Prop}{a:Act}{w:World}{l:List Oper}(hm:P.follows .mixedOrders =true)(hB:Region.lexB .any l.toArray=true)
 (h:wpQuiet P l.toArray (fun w'=>∃u:Later w,w'=u.w) (fun a'=>∀u:Later w,Q .normal a' u.w) l a):(Code.region id l.toArray true).wp P Q a w:=by
 refine wp_region_quiet (C:=fun w'=>∃u:Later w,w'=u.w) hm hB ⟨(Later.now w).drew,rfl⟩ ?_
 have e:(fun a'=>∀w',(∃u:Later w,w'=u.w)→Q .normal a' w')=(fun a'=>∀u:Later w,Q .normal a' u.w):=by
  funext a'
  apply propext;exact⟨fun h u=>h _ ⟨u,rfl⟩,fun h w' ⟨u,hu⟩=>hu▸h u⟩
 rw[e]
 simpa using h
theorem calls_later{P:Program}{f:FuncId}{args:Array Value}{w:World}{v:Value}(u:Later w)(h:Calls P f args u.w fun e w'=>e= .returned v∧Below u.w.heap.size u.w w'):
 Calls P f args u.w fun e w'=>e= .returned v∧∃u':Later w,w'=u'.w:=
 h.mono fun _ w' ⟨he,hb⟩=>⟨he,⟨w',u.below.trans (hb.mono u.below.size)⟩,rfl⟩
end Go.Proofs.YthfgmpooehkhgaaGreatDoor
