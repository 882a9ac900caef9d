import Derived.Test.YthfgmpooehkhgaaGreatDoorSmmhklnf
import Derived.Lib.SmallJoins
import Derived.Deep.OwnRows
namespace Go.Proofs.YthfgmpooehkhgaaGreatDoor.Sg
open Go.ChangeShapes Go.WideShapes Go.ChangeAt Go.RowKit Go.Joins
theorem hc_add(b o i:Nat):(⟨b,o,none⟩:Addr).add i=⟨b,o+i,none⟩:=by cases i<;>simp[Addr.add]
def Bls(w:World)(a:Option Addr)(l:List Bool):Prop:=
 l= []∨∃b off,a=some ⟨b,off,none⟩∧∀(i:Nat)(c:Bool),l[i]?=some c→w.cell? ⟨b,off+i,none⟩=some (.bool c)
theorem Bls.below{w w':World}{a:Option Addr}{l:List Bool}(h:Bls w a l)(hb:Below w.heap.size w w'):Bls w' a l:=by
 rcases h with h|⟨b,off,ha,hc⟩
 ·exact .inl h
 ·refine .inr ⟨b,off,ha,fun i c hx=>?_⟩;have:=hc i c hx
  exact(hb.cell (World.block_lt_of_cell? _ _ this)).trans this
end Go.Proofs.YthfgmpooehkhgaaGreatDoor.Sg
