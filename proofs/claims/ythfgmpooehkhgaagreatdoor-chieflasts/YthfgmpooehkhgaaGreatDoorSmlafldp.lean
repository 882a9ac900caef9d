import Derived.Test.YthfgmpooehkhgaaGreatDoorSmjkgemh
import Derived.Test.YthfgmpooehkhgaaGreatDoorSmaijggj
namespace Go.Proofs.YthfgmpooehkhgaaGreatDoor.Sg
open Go
structure Fa where
 dn:List Bool
 un:List Bool
 asked:Bool
 yes:Bool
 turned:Bool
 k0:Bool
 k1:Bool
 ship:Bool
 d0:Bool
 d1:Bool
 acc:Bool
def hasB:List Bool→Bool→Bool
 | [],_=>false
 |x::l,b=>(b==x)||hasB l b
def idxB:List Bool→Bool→Int
 | [],_=> -1
 |x::l,b=>if(b==x)=true then 0 else if idxB l b<0 then -1 else idxB l b+1
def allB(l:List Bool):Bool:= !hasB l false
def staysB(l:List Bool)(so:Bool):Bool:=decide (idxB l so<0)|| !hasB (l.drop (idxB l so).toNat) (!so)
def decF(f:Fa):Bool:=if f.turned then !f.yes&& !f.ship else if f.yes then f.asked else !f.ship&&(!f.k0&& !f.k1)&&(!f.d0&& !f.d1)
def donF(f:Fa):Bool:=if f.turned then true else if f.yes then allB f.dn else staysB f.dn false
def undF(f:Fa):Bool:=if f.turned then staysB f.un true else !hasB f.un true
def mayF(o:Od)(f:Fa):Bool:=mayO o&&decide (f.dn.length=o.steps.length)&&decide (f.un.length=o.steps.length)&&decF f&&donF f&&undF f
def stF(o:Od)(f:Fa):Int:=
 if mayF o f=false then 0
 else if((f.d0||f.d1)&& !f.acc)=true then 7
 else if(f.turned&&(f.k0&&f.k1)&&allB f.un)=true then 6
 else if f.turned=true then 4
 else if(f.yes&&(f.k0&&f.k1)&&f.ship)=true then 5
 else if f.yes=true then 3
 else if f.asked=true then 2
 else 1
def overF(o:Od)(f:Fa):Bool:=stF o {f with acc:=true}==5||stF o {f with acc:=true}==6
def msgM(o:Od)(k t:Int):Mg:=⟨k,0,t,o.id,0,0,0⟩
def doM(o:Od)(i:Nat):Mg:=⟨1,0,(stAt o.steps i).1,o.id,i,(stAt o.steps i).2,0⟩
def undoM(o:Od)(i:Nat):Mg:=⟨4,0,(stAt o.steps i).1,o.id,i,0,0⟩
def shipM(o:Od):Mg:=⟨15,0,3,o.id,0,o.item,o.qty⟩
def prepL(o:Od):List Mg:=[⟨6,0,1,o.id,0,o.item,o.qty⟩,⟨6,0,2,o.id,0,o.client,o.price⟩]
def decL(o:Od)(f:Fa)(k:Int):List Mg:=(if f.k0 then[]else[msgM o k 1])++(if f.k1 then[]else[msgM o k 2])
def fwdS(o:Od)(f:Fa)(x:Int×Int):List Mg×Bool:=
 if x.1=1 then(if f.dn.getD x.2.toNat false then([],false)else([doM o x.2.toNat],true))
 else if x.1=6 then(if f.yes then([],false)else(prepL o,true))
 else if x.1=9 then(decL o f 9,false)
 else if x.1=15 then(if f.ship then([],false)else([shipM o],false))
 else([],false)
def bckS(o:Od)(f:Fa)(x:Int×Int):List Mg×Bool:=
 if x.1=10 then(decL o f 10,false)
 else if x.1=4 then(if f.un.getD x.2.toNat false then([],false)else([undoM o x.2.toNat],true))
 else([],false)
def runS(g:Int×Int→List Mg×Bool):List (Int×Int)→List Mg→List Mg
 | [],acc=>acc
 |x::l,acc=>if(g x).2 then acc++(g x).1 else runS g l (acc++(g x).1)
def nextF(o:Od)(f:Fa):List Mg:=if mayF o f=false then[]else if f.turned then runS (bckS o f) (backL o) []else runS (fwdS o f) (planL o) []
theorem idxB_has(l:List Bool)(b:Bool):decide (idxB l b≥0)=hasB l b:=by
 induction l with
 |nil=>simp[idxB,hasB]
 |cons x l ih=>
  rw[idxB,hasB];by_cases h:(b==x)=true
  ·rw[if_pos h,h];simp
  ·rw[if_neg h];rw[Bool.not_eq_true]at h;rw[h,Bool.false_or,←ih];by_cases h2:idxB l b<0
   ·rw[if_pos h2];simp;omega
   ·rw[if_neg h2];have h3:idxB l b≥0:=by omega
    simp[h3];omega
theorem idxB_cases(l:List Bool)(b:Bool):(idxB l b= -1∧b∉l)∨∃n:Nat,n<l.length∧idxB l b=n∧l[n]?=some b∧b∉l.take n:=by
 induction l with
 |nil=>exact .inl ⟨rfl,by simp⟩
 |cons x l ih=>
  rw[idxB];by_cases h:(b==x)=true
  ·rw[if_pos h];exact .inr ⟨0,by simp,rfl,by simp at h;simp[h],by simp⟩
  ·rw[if_neg h];rcases ih with⟨e,hn⟩|⟨n,h1,h2,h3,h4⟩
   ·rw[if_pos (by omega)];exact .inl ⟨rfl,by simp at h;simp[hn,h]⟩
   ·rw[if_neg (by omega)];exact .inr ⟨n+1,by simp;omega,by omega,by simpa using h3,by simp at h;simp[h,h4]⟩
theorem idxB_none{l:List Bool}{b:Bool}(h:b∉l):idxB l b= -1:=by
 rcases idxB_cases l b with⟨e,_⟩|⟨n,_,_,h3,_⟩
 ·exact e
 ·exact absurd (List.mem_of_getElem? h3) h
theorem idxB_hit{l:List Bool}{b:Bool}{j:Nat}(hj:l[j]?=some b)(h:b∉l.take j):idxB l b=j:=by
 have hjl:=(List.getElem?_eq_some_iff.1 hj).1
 rcases idxB_cases l b with⟨_,hn⟩|⟨n,h1,h2,h3,h4⟩
 ·exact absurd (List.mem_of_getElem? hj) hn
 ·have e:n=j:=by
   rcases Nat.lt_trichotomy n j with e|e|e
   ·exfalso;apply h
    exact List.mem_of_getElem? (i:=n) (by rw[List.getElem?_take,if_pos e];exact h3)
   ·exact e
   ·exfalso;apply h4
    exact List.mem_of_getElem? (i:=j) (by rw[List.getElem?_take,if_pos e];exact hj)
  rw[h2,e]
theorem not_snoc{l:List Bool}{b x:Bool}{j:Nat}(hj:l[j]?=some x)(hx:x≠b)(h:b∉l.take j):b∉l.take (j+1):=by
 intro hm
 rw[List.take_add_one,List.mem_append]at hm
 rcases hm with hm|hm
 ·exact h hm
 ·rw[hj]at hm;simp at hm;exact hx hm.symm
end Go.Proofs.YthfgmpooehkhgaaGreatDoor.Sg
namespace Go.Proofs.YthfgmpooehkhgaaGreatDoor.Sg
open Go.ChangeShapes Go.WideShapes Go.ChangeAt Go.RowKit
def stCells(l:List (Int×Int)):List Value:=l.flatMap fun x=>[.int .i64 x.1,.int .i64 x.2]
theorem Tryz.infoStep:(Tryz.prog.info? 107).map (fun i=>(i.zero,i.size,i.bytes))=some (some (.agg #[.int .i64 0,.int .i64 0]),2,16):=by kernel_rfl
theorem stCells_append(l m:List (Int×Int)):stCells (l++m)=stCells l++stCells m:=by simp[stCells]
theorem stCells_len(l:List (Int×Int)):(stCells l).length =l.length*2:=by
 induction l with
 |nil=>rfl
 |cons x l ih=>rw[show stCells (x::l)= [.int .i64 x.1,.int .i64 x.2]++stCells l by simp[stCells]];simp[ih];omega
theorem stAt_succ(x:Int×Int)(l:List (Int×Int))(i:Nat):stAt (x::l) (i+1)=stAt l i:=by simp[stAt]
theorem stCells_at:∀(l:List (Int×Int))(i:Nat),i<l.length→(stCells l)[i*2]?=some (.int .i64 (stAt l i).1)∧(stCells l)[i*2+1]?=some (.int .i64 (stAt l i).2)
 | [],i,h=>by simp at h
 |y::r,0,_=>by simp[stCells,stAt]
 |y::r,i+1,h=>by
  have ih:=stCells_at r i (by simpa using h)
  have e:stCells (y::r)= [.int .i64 y.1,.int .i64 y.2]++stCells r:=by simp[stCells]
  rw[e,show(i+1)*2=i*2+2 by omega,stAt_succ];refine⟨?_,?_⟩
  ·rw[List.getElem?_append_right (by simp)];simpa using ih.1
  ·rw[List.getElem?_append_right (by simp)];simpa using ih.2
theorem stCells_get{l:List (Int×Int)}{j:Nat}{u:Value}(h:(stCells l)[j]?=some u):∃i,i<l.length∧((j=i*2∧u= .int .i64 (stAt l i).1)∨(j=i*2+1∧u= .int .i64 (stAt l i).2)):=by
 have hj:j<l.length*2:=by
  have:=(List.getElem?_eq_some_iff.1 h).1
  rwa [stCells_len]at this
 obtain⟨h1,h2⟩:=stCells_at l (j/2) (by omega)
 refine⟨j/2,by omega,?_⟩
 rcases Nat.mod_two_eq_zero_or_one j with e|e
 ·have ej:j/2*2=j:=by omega
  rw[ej,h]at h1;exact .inl ⟨ej.symm,Option.some.inj h1⟩
 ·have ej:j/2*2+1=j:=by omega
  rw[ej,h]at h2;exact .inr ⟨ej.symm,Option.some.inj h2⟩
theorem row_sts{W:World}{base:Nat}{a:Option Addr}{c:Nat}{l:List (Int×Int)}(h:W.ownsRow base 107 2 (.slice a l.length c) l.length (stCells l)):Sts W a l:=by
 have hc:=fun g hg=>h.cells (g:=g) hg
 rcases h.2 with⟨_,h1⟩|⟨g,cap,cur,e,hb,hcur,_⟩
 ·exact .inl (List.eq_nil_of_length_eq_zero h1)
 ·cases e;refine .inr ⟨g,0,rfl,fun i hi=>?_⟩;obtain⟨e1,e2⟩:=stCells_at l i hi;have c1:=hc g rfl _ _ e1
  have c2:=hc g rfl _ _ e2
  rw[st_add']at c1 c2;exact⟨c1,c2⟩
theorem sts_news{w:World}{ad:Addr}{m:List (Int×Int)}(h:Sts w (some ad) m):∀j u,(stCells m)[j]?=some u→w.cell? (ad.add j)=some u:=by
 intro j u hu
 obtain⟨i,hi,hh⟩:=stCells_get hu
 obtain⟨b,off,e,h0,h1⟩:=h.at hi
 cases e
 rw[st_add']
 rcases hh with⟨rfl,rfl⟩|⟨rfl,rfl⟩
 ·exact h0
 ·exact h1
theorem append_sts{w:World}{ops:Array Oper}{rest:List Oper}{o:Oper}{a:Act}{Q:Exit→Act→World→Prop}(hgd:o.guard=none)(s x:Operand)
 (ho:o.op= .call {callee:= .builtin .append,args:=#[s,x],argTypes:=#[30,30]})
 (base:Nat) (v:Value) (L:List (Int×Int)) (hs:a.eval s=v) (hown:w.ownsRow base 107 2 v L.length (stCells L)) (ad:Addr) (m:List (Int×Int)) (c:Nat) (hx:a.eval x= .slice (some ad) m.length c)
 (hm:Sts w (some ad) m) (hb:L.length+m.length≤1000000) (hbase:base≤w.heap.size)
 (h:∀a' c' w',w'.ownsRow base 107 2 (.slice a' (L.length+m.length) c') (L++m).length (stCells (L++m))→w.grownBy w' v.ownBlock→wpList Tryz.prog ops Q rest (a.put o.dst (.slice a' (L.length+m.length) c')) w'):wpList Tryz.prog ops Q (o::rest) a w:=by
 obtain⟨i0,hi,hz0,hz1,hz2⟩:=info_parts Tryz.infoStep
 refine wpList_append_own_at _ hgd s x 30 ho base 107 i0 _ 2 16 Tryz.underlying30 hi hz0 hz1 hz2 rfl (by decide) v L.length (stCells L) hs hown ad m.length c (stCells m) hx (stCells_len m) (sts_news hm) ?_ (by unfold maxLen;omega) (by omega) hbase ?_
 ·intro u hu;unfold stCells at hu;rw[List.mem_flatMap]at hu;obtain⟨y,_,hy⟩:=hu;simp at hy;rcases hy with rfl|rfl<;>rfl
 ·intro v' w' h1 h2 _ _;obtain⟨a',c',rfl,_⟩:=row_slice h1;refine h a' c' w' ?_ h2;rw[stCells_append,List.length_append];exact h1
theorem sts_one(w:World)(x1 x2:Int):Sts (w.alloc (.cells #[.int .i64 x1,.int .i64 x2] 107)) (some ⟨w.heap.size,0,none⟩) [(x1,x2)]:=
 .inr ⟨w.heap.size,0,rfl,fun i hi=>by
  have h0:i=0:=by simp at hi;exact hi
  subst h0;simp[stAt]⟩
end Go.Proofs.YthfgmpooehkhgaaGreatDoor.Sg
