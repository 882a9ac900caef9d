import Derived.Test.YthfgmpooehkhgaaGreatDoorSmabdogb
import Derived.Test.YthfgmpooehkhgaaGreatDoorSmmhklnf
import Derived.Deep.OwnRows
import Derived.BigQuiet
import Derived.Deep.Light
import Derived.WalkLawsBesides
namespace Go.Proofs.YthfgmpooehkhgaaGreatDoor
open Go.ChangeShapes Go.WideShapes Go.ChangeAt Go.RowKit
def Ints(w:World)(a:Option Addr)(l:List Int):Prop:=
 l= []∨∃b off,a=some ⟨b,off,none⟩∧∀i,i<l.length→w.cell? ⟨b,off+i,none⟩=some (.int .i64 (l.getD i 0))
theorem Ints.below{w w':World}{a:Option Addr}{l:List Int}(h:Ints w a l)(hb:Below w.heap.size w w'):Ints w' a l:=by
 rcases h with h|⟨b,off,ha,hc⟩
 ·exact .inl h
 ·refine .inr ⟨b,off,ha,fun i hi=>?_⟩;have:=hc i hi
  rw[hb.cell (p:=⟨b,off+i,none⟩) (World.block_lt_of_cell? _ _ this)];exact this
end Go.Proofs.YthfgmpooehkhgaaGreatDoor
