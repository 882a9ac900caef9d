import Derived.Test.YthfgmpooehkhgaaGreatDoorRows
import Derived.WalkKit
namespace Go.Proofs.YthfgmpooehkhgaaGreatDoor
open Go.RowKit
theorem hide{P:Prop}(h:P):Hid P:=h
theorem bel_on'{w w1 w2:World}(h:Below w.heap.size w w1)(h2:Below w1.heap.size w1 w2):Below w.heap.size w w2:=h.trans (h2.mono h.size)
theorem ret_bool{a b:Bool}(h:a=b):Ending.returned (.bool a)= .returned (.bool b):=by rw[h]
theorem cellL{w w':World}{p:Addr}{v:Value}(h:w.cell? p=some v)(hb:Below w.heap.size w w'):w'.cell? p=some v:=(hb.cell (World.block_lt_of_cell? _ _ h)).trans h
theorem ret_int{k:IntKind}{a b:Int}(h:a=b):Ending.returned (.int k a)= .returned (.int k b):=by rw[h]
theorem cell_of{w:World}{b i:Nat}{cs:Array Value}{t:TypeId}{f:Nat×Nat}(h:w.heap[b]?=some (.cells cs t f)):w.cell? ⟨b,i,none⟩=cs[i]?:=by
 unfold World.cell?
 simp only[h]
 rfl
end Go.Proofs.YthfgmpooehkhgaaGreatDoor
namespace Go.Proofs.YthfgmpooehkhgaaGreatDoor
def cnt(y:Nat→Bool):Nat→Nat
 |0=>0
 |k+1=>cnt y k+(if y k=true then 1 else 0)
def silent(y:Nat→Bool):Nat→List Int
 |0=>[]
 |k+1=>silent y k++(if y k=true then[]else[(k:Int)])
def yesB(y:Nat→Bool)(i:Nat):Nat→Bool:=fun k=>if k=i then true else y k
theorem cnt_le(y:Nat→Bool)(k:Nat):cnt y k≤k:=by
 induction k with
 |zero=>exact Nat.le_refl _
 |succ k ih=>unfold cnt;split<;>omega
theorem cnt_up(y:Nat→Bool)(i:Nat)(h:y i=false)(k:Nat):cnt (yesB y i) k=cnt y k+(if i<k then 1 else 0):=by
 induction k with
 |zero=>rfl
 |succ k ih=>
  unfold cnt;rw[ih];unfold yesB;by_cases e:k=i
  ·subst e;simp[h]
  ·simp only[if_neg e];by_cases l:i<k
   ·have l2:i<k+1:=by omega
    simp only[if_pos l,if_pos l2];omega
   ·have l2:¬i<k+1:=by omega
    simp only[if_neg l,if_neg l2];omega
theorem silent_len(y:Nat→Bool)(k:Nat):(silent y k).length +cnt y k=k:=by
 induction k with
 |zero=>rfl
 |succ k ih=>unfold silent cnt;cases y k<;>simp<;>omega
theorem cnt_none(k:Nat):cnt (fun _=>false) k=0:=by
 induction k with
 |zero=>rfl
 |succ k ih=>unfold cnt;rw[ih];rfl
structure Ta where
 n:Nat
 y:Nat→Bool
 d:Bool
def Ta.f(t:Ta):Bool:=decide (cnt t.y t.n=t.n)
structure Ta.good (t:Ta):Prop where
 n1:1≤t.n
 n64:t.n≤64
 fd:t.f=true→t.d=true
def cutN(n:Int):Nat:=if n<1 then 1 else if 64<n then 64 else n.toNat
theorem cutN_bd(n:Int):1≤cutN n∧cutN n≤64:=by unfold cutN;split<;>(try split)<;>omega
def newT(n:Nat):Ta:=⟨n,fun _=>false,false⟩
def Ta.close(t:Ta):Ta:=⟨t.n,t.y,true⟩
abbrev Ta.fits(t:Ta)(i:Int):Prop:=t.d=false∧0≤i∧i<t.n
def Ta.sayB(t:Ta)(i:Int)(b:Bool):Bool:=if t.fits i then(!t.y i.toNat||b)else false
def Ta.said(t:Ta)(i:Int)(b:Bool):Ta:=
 if t.fits i∧t.y i.toNat=false then(if b=true then⟨t.n,yesB t.y i.toNat,decide (cnt (yesB t.y i.toNat) t.n=t.n)⟩else t.close)else t
def Ta.waits(t:Ta):List Int:=if t.d=true then[]else silent t.y t.n
theorem newT_good{n:Nat}(h:1≤n∧n≤64):(newT n).good :=⟨h.1,h.2,fun e=>by
 unfold Ta.f newT at e
 dsimp only at e
 rw[cnt_none]at e
 have:=of_decide_eq_true e
 omega⟩
theorem newT_f{n:Nat}(h:1≤n):(newT n).f =false:=by
 unfold Ta.f newT
 dsimp only
 rw[cnt_none]
 simp
 omega
theorem Ta.good.open_{t:Ta}(g:t.good)(h:t.d=false):cnt t.y t.n<t.n:=by
 rcases Nat.lt_or_ge (cnt t.y t.n) t.n with e|e
 ·exact e
 ·have e2:t.f=true:=by unfold Ta.f;simp;exact Nat.le_antisymm (cnt_le _ _) e
  have:=g.fd e2
  rw[h]at this;cases this
theorem Ta.good.open_f{t:Ta}(g:t.good)(h:t.d=false):t.f=false:=by
 have:=g.open_ h
 unfold Ta.f;simp;omega
theorem Ta.good.close{t:Ta}(g:t.good):t.close.good:=⟨g.n1,g.n64,fun _=>rfl⟩
end Go.Proofs.YthfgmpooehkhgaaGreatDoor
