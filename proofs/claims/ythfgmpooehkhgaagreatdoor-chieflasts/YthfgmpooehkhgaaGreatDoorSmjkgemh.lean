import Derived.Test.YthfgmpooehkhgaaGreatDoorSmigddag
import Derived.OpenShut
import Derived.ProofKit
import Derived.WalkLawsBesides
import Derived.Laws.AppendOwnNone
import Derived.Maps.OwnIn
import Derived.Deep.OwnRows
namespace Go.Proofs.YthfgmpooehkhgaaGreatDoor.Ms
open Go.ChangeShapes Go.WideShapes Go.ChangeAt Go.RowKit
end Go.Proofs.YthfgmpooehkhgaaGreatDoor.Ms
namespace Go.Proofs.YthfgmpooehkhgaaGreatDoor.Ms
open Go
end Go.Proofs.YthfgmpooehkhgaaGreatDoor.Ms
namespace Go.Proofs.YthfgmpooehkhgaaGreatDoor.Ms
open Go.ChangeShapes Go.WideShapes Go.ChangeAt Go.RowKit
end Go.Proofs.YthfgmpooehkhgaaGreatDoor.Ms
namespace Go.Proofs.YthfgmpooehkhgaaGreatDoor.Sg
open Go.ChangeShapes Go.WideShapes Go.ChangeAt Go.RowKit
theorem st_add'(g o i:Nat):(⟨g,o,none⟩:Addr).add i=⟨g,o+i,none⟩:=by cases i<;>simp[Addr.add]
theorem row_stays{W W':World}{base:Nat}{e:TypeId}{s:Nat}{v:Value}{n:Nat}{xs:List Value}(h:W.ownsRow base e s v n xs)(hk:∀(k:Nat)(cs:Array Value),base≤k→W.heap[k]?=some (.cells cs e (0,0))→W'.heap[k]?=W.heap[k]?):W'.ownsRow base e s v n xs:=by
 obtain⟨h1,h2⟩:=h
 refine⟨h1,?_⟩
 rcases h2 with h2|⟨g,cap,cur,hv,hg,hc,rest⟩
 ·exact .inl h2
 ·exact .inr ⟨g,cap,cur,hv,hg,(hk g cur hg hc).trans hc,rest⟩
theorem row_slice{W:World}{base:Nat}{e:TypeId}{s:Nat}{v:Value}{n:Nat}{xs:List Value}(h:W.ownsRow base e s v n xs):∃a c,v= .slice a n c∧n≤c:=by
 rcases h.2 with⟨rfl,rfl⟩|⟨g,cap,cur,rfl,_,_,hn,_⟩
 ·exact⟨none,0,rfl,Nat.le_refl _⟩
 ·exact⟨_,cap,rfl,hn⟩
theorem row_none{W:World}{base:Nat}{e:TypeId}{s:Nat}{n c:Nat}{xs:List Value}(h:W.ownsRow base e s (.slice none n c) n xs):n=0∧c=0:=by
 rcases h.2 with⟨e,rfl⟩|⟨g,cap,cur,e,_⟩
 ·cases e;exact⟨rfl,rfl⟩
 ·cases e
theorem row_nil(W:World)(base:Nat)(e:TypeId)(s:Nat):W.ownsRow base e s (.slice none 0 0) 0 []:=⟨by simp,.inl ⟨rfl,rfl⟩⟩
theorem kept_more{E F:Nat→Obj→Prop}{w V U:World}(h:Rg.Kept E w V)(k:Rg.Kept F V U)(hF:∀i o,F i o→E i o∨w.heap.size≤i):Rg.Kept E w U:=
 ⟨k.os.trans h.os,k.tape.trans h.tape,k.output.trans h.output,Nat.le_trans h.size k.size,fun i o hi hx=>k.block i o (h.block i o hi hx) (fun e=>(hF i o e).elim hx (fun e=>by have:=(Array.getElem?_eq_some_iff.1 hi).1;omega))⟩
theorem cells_stay{W W':World}{row:Option Nat}{X:Nat}(hg:W.grownBy W' row)(hr:∀r,row=some r→X≤r∧∃o:Obj,W.heap[r]?=some o∧o.isCells=false){k:Nat}{cs:Array Value}{t:TypeId}{f:Nat×Nat}(h:W.heap[k]?=some (.cells cs t f)):W'.heap[k]?=W.heap[k]?:=
 hg.block k (Array.getElem?_eq_some_iff.1 h).1 (fun e=>by
  obtain⟨_,o,ho,hc⟩:=hr k e.symm;rw[h]at ho;cases ho;cases hc)
end Go.Proofs.YthfgmpooehkhgaaGreatDoor.Sg
namespace Go.Proofs.YthfgmpooehkhgaaGreatDoor.Sg
open Go
structure Mg where
 k:Int
 fr:Int
 to:Int
 id:Int
 st:Int
 a:Int
 b:Int
end Go.Proofs.YthfgmpooehkhgaaGreatDoor.Sg
namespace Go.Proofs.YthfgmpooehkhgaaGreatDoor.Sg
open Go.ChangeShapes Go.WideShapes Go.ChangeAt Go.RowKit
def mgC(m:Mg):List Value:=[.int .i64 m.k,.int .i64 m.fr,.int .i64 m.to,.int .i64 m.id,.int .i64 m.st,.int .i64 m.a,.int .i64 m.b]
def mgCells(l:List Mg):List Value:=l.flatMap mgC
theorem mgCells_append(l m:List Mg):mgCells (l++m)=mgCells l++mgCells m:=by simp[mgCells]
theorem mgCells_len(l:List Mg):(mgCells l).length =l.length*7:=by
 induction l with
 |nil=>rfl
 |cons x l ih=>rw[show mgCells (x::l)=mgC x++mgCells l by simp[mgCells],List.length_append,ih];simp[mgC];omega
theorem mgCells_at:∀(l:List Mg)(i j:Nat)(m:Mg),l[i]?=some m→j<7→(mgCells l)[i*7+j]?=(mgC m)[j]?
 | [],i,j,m,h,_=>by simp at h
 |y::r,0,j,m,h,hj=>by
  simp at h;subst h;rw[show mgCells (y::r)=mgC y++mgCells r by simp[mgCells],List.getElem?_append_left (by simp[mgC];omega)];congr 1;omega
 |y::r,i+1,j,m,h,hj=>by
  have ih:=mgCells_at r i j m (by simpa using h) hj
  rw[show mgCells (y::r)=mgC y++mgCells r by simp[mgCells],List.getElem?_append_right (by simp[mgC];omega),←ih];congr 1;simp[mgC];omega
theorem mgCells_one{l:List Mg}{u:Value}(h:u∈mgCells l):u.oneCell'=true:=by
 unfold mgCells at h
 rw[List.mem_flatMap]at h
 obtain⟨y,_,hy⟩:=h
 simp[mgC]at hy
 rcases hy with rfl|rfl|rfl|rfl|rfl|rfl|rfl<;>rfl
def Mgs(w:World)(a:Option Addr)(l:List Mg):Prop:=
 l= []∨∃b off,a=some ⟨b,off,none⟩∧∀j u,(mgCells l)[j]?=some u→w.cell? ⟨b,off+j,none⟩=some u
theorem Mgs.below{w w':World}{a:Option Addr}{l:List Mg}(h:Mgs w a l)(hb:Below w.heap.size w w'):Mgs w' a l:=by
 rcases h with h|⟨b,off,ha,hc⟩
 ·exact .inl h
 ·exact .inr ⟨b,off,ha,fun j u hu=>cellL (hc j u hu) hb⟩
theorem Mgs.get{w:World}{a:Option Addr}{l:List Mg}(h:Mgs w a l){i:Nat}{m:Mg}(hm:l[i]?=some m):∃b off,a=some ⟨b,off,none⟩∧
 w.cell? ⟨b,off+i*7,none⟩=some (.int .i64 m.k)∧w.cell? ⟨b,off+i*7+1,none⟩=some (.int .i64 m.fr)∧w.cell? ⟨b,off+i*7+2,none⟩=some (.int .i64 m.to)∧w.cell? ⟨b,off+i*7+3,none⟩=some (.int .i64 m.id)∧w.cell? ⟨b,off+i*7+4,none⟩=some (.int .i64 m.st)∧w.cell? ⟨b,off+i*7+5,none⟩=some (.int .i64 m.a)∧w.cell? ⟨b,off+i*7+6,none⟩=some (.int .i64 m.b):=by
 rcases h with h|⟨b,off,ha,hc⟩
 ·subst h;simp at hm
 ·have g:=fun j hj=>mgCells_at l i j m hm hj
  refine⟨b,off,ha,?_,?_,?_,?_,?_,?_,?_⟩
  ·exact hc (i*7+0) _ (g 0 (by omega))
  all_goals(rw[Nat.add_assoc];refine hc _ _ ((g _ (by omega)).trans ?_);rfl)
theorem row_mgs{W:World}{base:Nat}{a:Option Addr}{c:Nat}{l:List Mg}(h:W.ownsRow base 34 7 (.slice a l.length c) l.length (mgCells l)):Mgs W a l:=by
 have hc:=fun g hg=>h.cells (g:=g) hg
 rcases h.2 with⟨_,h1⟩|⟨g,cap,cur,e,hb,hcur,_⟩
 ·exact .inl (List.eq_nil_of_length_eq_zero h1)
 ·cases e;refine .inr ⟨g,0,rfl,fun j u hu=>?_⟩;have:=hc g rfl _ _ hu
  rwa [st_add']at this
theorem Tryz.infoMsg:(Tryz.prog.info? 34).map (fun i=>(i.zero,i.size,i.bytes))=some (some (.agg #[.int .i64 0,.int .i64 0,.int .i64 0,.int .i64 0,.int .i64 0,.int .i64 0,.int .i64 0]),7,56):=by kernel_rfl
theorem mgs_news{w:World}{ad:Addr}{m:List Mg}(h:Mgs w (some ad) m):∀j u,(mgCells m)[j]?=some u→w.cell? (ad.add j)=some u:=by
 intro j u hu
 rcases h with h|⟨b,off,ha,hc⟩
 ·subst h;simp[mgCells]at hu
 ·cases ha;rw[st_add'];exact hc j u hu
theorem mgs_new(w:World)(l:List Mg)(cs:Array Value)(h:cs.toList=mgCells l):Mgs (w.alloc (.cells cs 34)) (some ⟨w.heap.size,0,none⟩) l:=by
 refine .inr ⟨w.heap.size,0,rfl,fun j u hu=>?_⟩
 have e:(w.alloc (.cells cs 34)).heap[w.heap.size]?=some (.cells cs 34 (0,0)):=World.alloc_heap_new w _
 rw[cell_of e,Nat.zero_add]
 rw[←h]at hu
 simpa using hu
def OwnM(w:World)(xs:List Mg)(e:Ending)(w':World):Prop:=
 ∃a c,e= .returned (.slice a xs.length c)∧xs.length≤c∧(a=none→xs= []∧c=0)∧w'.ownsRow w.heap.size 34 7 (.slice a xs.length c) xs.length (mgCells xs)∧Below w.heap.size w w'
theorem mrow_new(w:World)(base:Nat)(hb:base≤w.heap.size)(l:List Mg)(cs:Array Value)(h:cs.toList=mgCells l)(hl:l.length≤1000000):(w.alloc (.cells cs 34)).ownsRow base 34 7 (.slice (some ⟨w.heap.size,0,none⟩) l.length l.length) l.length (mgCells l):=by
 refine⟨mgCells_len l,.inr ⟨w.heap.size,l.length,cs,rfl,hb,World.alloc_heap_new w _,Nat.le_refl _,by unfold maxLen;omega,?_,?_⟩⟩
 ·rw[←Array.length_toList,h,mgCells_len]
 ·rw[h,←mgCells_len,List.take_length]
theorem append_mgs{w:World}{ops:Array Oper}{rest:List Oper}{o:Oper}{a:Act}{Q:Exit→Act→World→Prop}(hgd:o.guard=none)(s x:Operand)
 (ho:o.op= .call {callee:= .builtin .append,args:=#[s,x],argTypes:=#[29,29]})
 (base:Nat) (v:Value) (L:List Mg) (hs:a.eval s=v) (hown:w.ownsRow base 34 7 v L.length (mgCells L)) (ao:Option Addr) (m:List Mg) (c:Nat) (hx:a.eval x= .slice ao m.length c) (hn:ao=none→m= []∧c=0)
 (hm:Mgs w ao m) (hb:L.length+m.length≤1000000) (hbase:base≤w.heap.size)
 (h:∀a' c' w',w'.ownsRow base 34 7 (.slice a' (L.length+m.length) c') (L++m).length (mgCells (L++m))→w.grownBy w' v.ownBlock→wpList Tryz.prog ops Q rest (a.put o.dst (.slice a' (L.length+m.length) c')) w'):wpList Tryz.prog ops Q (o::rest) a w:=by
 obtain⟨i0,hi,hz0,hz1,hz2⟩:=info_parts Tryz.infoMsg
 cases ao with
 |none=>
  obtain⟨rfl,rfl⟩:=hn rfl;obtain⟨av,cv,rfl,_⟩:=row_slice hown;refine wpList_append_own_none hgd s x 29 ho base 34 i0 7 Tryz.underlying29 hi _ _ _ hs hown (by simpa using hx) (h av cv w ?_ ⟨rfl,rfl,rfl,Nat.le_refl _,fun _ _ _=>rfl⟩);simpa using hown
 |some ad=>
  refine wpList_append_own_at _ hgd s x 29 ho base 34 i0 _ 7 56 Tryz.underlying29 hi hz0 hz1 hz2 rfl (by decide) v L.length (mgCells L) hs hown ad m.length c (mgCells m) hx (mgCells_len m) (mgs_news hm) (fun u hu=>mgCells_one hu) (by unfold maxLen;omega) (by omega) hbase ?_;intro v' w' h1 h2 _ _;obtain⟨a',c',rfl,_⟩:=row_slice h1;refine h a' c' w' ?_ h2;rw[mgCells_append,List.length_append];exact h1
end Go.Proofs.YthfgmpooehkhgaaGreatDoor.Sg
