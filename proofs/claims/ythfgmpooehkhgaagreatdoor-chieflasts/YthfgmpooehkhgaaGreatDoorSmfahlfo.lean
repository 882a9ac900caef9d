import Derived.Test.YthfgmpooehkhgaaGreatDoorSmlgibgh
import Derived.Test.YthfgmpooehkhgaaGreatDoorSmlafldp
namespace Go.Proofs.YthfgmpooehkhgaaGreatDoor.C22
open Go.ChangeShapes Go.WideShapes Go.ChangeAt Go.RowKit Go.Joins
theorem hc_add(b o i:Nat):(⟨b,o,none⟩:Addr).add i=⟨b,o+i,none⟩:=by cases i<;>simp[Addr.add]
theorem trod_s7{H:Type}{enc:TypeId×Value→H}{P:Program}{w:World}{base:Nat}{spare:Nat→Bool}{held:Bool}{t:TypeId}{f0 f1 f2 f3 f4 f5 f6:Field}{fuel:Nat}{cs:List Value}{x:DataW H×List MemPlace}(ht:P.underlying t=some (.struct #[f0,f1,f2,f3,f4,f5,f6]))(h:DataW.trod enc P w base spare held fuel t cs=some x):
 ∃y0 y1 y2 y3 y4 y5 y6 n,DataW.trod enc P w base spare held n f0.type ((cs.drop f0.offset).take (P.cellsOf f0.type))=some y0∧DataW.trod enc P w base spare held n f1.type ((cs.drop f1.offset).take (P.cellsOf f1.type))=some y1∧DataW.trod enc P w base spare held n f2.type ((cs.drop f2.offset).take (P.cellsOf f2.type))=some y2∧DataW.trod enc P w base spare held n f3.type ((cs.drop f3.offset).take (P.cellsOf f3.type))=some y3∧DataW.trod enc P w base spare held n f4.type ((cs.drop f4.offset).take (P.cellsOf f4.type))=some y4∧DataW.trod enc P w base spare held n f5.type ((cs.drop f5.offset).take (P.cellsOf f5.type))=some y5∧DataW.trod enc P w base spare held n f6.type ((cs.drop f6.offset).take (P.cellsOf f6.type))=some y6:=by
 obtain⟨xs,n,_,rfl,hl,hlen,hf⟩:=DataW.trod_struct ht h
 match xs,hlen with
 | [y0,y1,y2,y3,y4,y5,y6],_=>exact⟨y0,y1,y2,y3,y4,y5,y6,n,by simpa using hf 0 f0 rfl,by simpa using hf 1 f1 rfl,by simpa using hf 2 f2 rfl,by simpa using hf 3 f3 rfl,by simpa using hf 4 f4 rfl,by simpa using hf 5 f5 rfl,by simpa using hf 6 f6 rfl⟩
def msg_ok(c:Sg.Mg):Prop:=(Lit.int .i64 c.k).wf =true∧(Lit.int .i64 c.fr).wf =true∧(Lit.int .i64 c.to).wf =true∧(Lit.int .i64 c.id).wf =true∧(Lit.int .i64 c.st).wf =true∧(Lit.int .i64 c.a).wf =true∧(Lit.int .i64 c.b).wf =true
theorem msg{H:Type}{enc:TypeId×Value→H}{W:World}{fuel:Nat}{c0 c1 c2 c3 c4 c5 c6:Value}{x:DataW H×List MemPlace}(h:DataW.trod enc Tryz.prog W 0 (fun _=>true) true fuel 34 [c0,c1,c2,c3,c4,c5,c6]=some x):
 ∃c:Sg.Mg,c0= .int .i64 c.k∧c1= .int .i64 c.fr∧c2= .int .i64 c.to∧c3= .int .i64 c.id∧c4= .int .i64 c.st∧c5= .int .i64 c.a∧c6= .int .i64 c.b∧msg_ok c:=by
 have e1:Tryz.prog.cellsOf 3=1:=by kernel_rfl
 obtain⟨y0,y1,y2,y3,y4,y5,y6,n,g0,g1,g2,g3,g4,g5,g6⟩:=trod_s7 Tryz.underlying34 h
 dsimp only at g0 g1 g2 g3 g4 g5 g6
 simp only[e1,List.drop_zero,List.drop_succ_cons,List.take_succ_cons,List.take_zero]at g0 g1 g2 g3 g4 g5 g6
 obtain⟨z0,h0,-,v0⟩:=DataW.trod_int Tryz.underlying3 g0
 obtain⟨z1,h1,-,v1⟩:=DataW.trod_int Tryz.underlying3 g1
 obtain⟨z2,h2,-,v2⟩:=DataW.trod_int Tryz.underlying3 g2
 obtain⟨z3,h3,-,v3⟩:=DataW.trod_int Tryz.underlying3 g3
 obtain⟨z4,h4,-,v4⟩:=DataW.trod_int Tryz.underlying3 g4
 obtain⟨z5,h5,-,v5⟩:=DataW.trod_int Tryz.underlying3 g5
 obtain⟨z6,h6,-,v6⟩:=DataW.trod_int Tryz.underlying3 g6
 simp only[List.cons.injEq,and_true]at h0 h1 h2 h3 h4 h5 h6
 exact⟨⟨z0,z1,z2,z3,z4,z5,z6⟩,h0,h1,h2,h3,h4,h5,h6,v0,v1,v2,v3,v4,v5,v6⟩
theorem ord_id{H:Type}{enc:TypeId×Value→H}{W:World}{fuel:Nat}{i0:Int}{c1 c2 c3 c4 c5:Value}{x:DataW H×List MemPlace}(h:DataW.trod enc Tryz.prog W 0 (fun _=>true) true fuel 32 [.int .i64 i0,c1,c2,c3,c4,c5]=some x):(Lit.int .i64 i0).wf =true:=by
 have e1:Tryz.prog.cellsOf 3=1:=by kernel_rfl
 obtain⟨y0,y1,y2,y3,y4,y5,n,g0,-,-,-,-,-⟩:=Sg.trod_struct6 Tryz.underlying32 h
 dsimp only at g0
 simp only[e1,List.drop_zero,List.take_succ_cons,List.take_zero]at g0
 obtain⟨z0,h0,-,v0⟩:=DataW.trod_int Tryz.underlying3 g0
 simp only[List.cons.injEq,and_true]at h0
 cases h0
 exact v0
structure Cl where
 d:Int
 id:Int
 i:Int
 tn:Int
 o:Sg.Od
 sa:Option Addr
 sc:Nat
 m:Sg.Mg
def one_ok(W:World)(c:Cl):Prop:=(Lit.int .i64 c.d).wf =true∧(Lit.int .i64 c.id).wf =true∧(Lit.int .i64 c.i).wf =true∧(Lit.int .i64 c.tn).wf =true∧(Lit.int .i64 c.o.id).wf =true∧Sg.OdIn W c.o c.sa c.sc∧msg_ok c.m
theorem one_ok.below{w w':World}{c:Cl}(h:one_ok w c)(hb:Below w.heap.size w w'):one_ok w' c:=⟨h.1,h.2.1,h.2.2.1,h.2.2.2.1,h.2.2.2.2.1,h.2.2.2.2.2.1.below hb,h.2.2.2.2.2.2⟩
theorem one{H:Type}{enc:TypeId×Value→H}{W:World}{fuel:Nat}{c0 c1 c2 c3 c4 c5 c6 c7 c8 c9 c10 c11 c12 c13 c14 c15 c16:Value}{x:DataW H×List MemPlace}(h:DataW.trod enc Tryz.prog W 0 (fun _=>true) true fuel 36 [c0,c1,c2,c3,c4,c5,c6,c7,c8,c9,c10,c11,c12,c13,c14,c15,c16]=some x):
 ∃c:Cl,c0= .int .i64 c.d∧c1= .int .i64 c.id∧c2= .int .i64 c.i∧c3= .int .i64 c.tn∧c4= .int .i64 c.o.id∧c5= .int .i64 c.o.item∧c6= .int .i64 c.o.qty∧c7= .int .i64 c.o.client∧c8= .int .i64 c.o.price∧c9= .slice c.sa c.o.steps.length c.sc∧c10= .int .i64 c.m.k∧c11= .int .i64 c.m.fr∧c12= .int .i64 c.m.to∧c13= .int .i64 c.m.id∧c14= .int .i64 c.m.st∧c15= .int .i64 c.m.a∧c16= .int .i64 c.m.b∧one_ok W c:=by
 have e1:Tryz.prog.cellsOf 3=1:=by kernel_rfl
 have eo:Tryz.prog.cellsOf 32=6:=by kernel_rfl
 have em:Tryz.prog.cellsOf 34=7:=by kernel_rfl
 obtain⟨y0,y1,y2,y3,y4,y5,n,g0,g1,g2,g3,g4,g5⟩:=Sg.trod_struct6 Tryz.underlying36 h
 dsimp only at g0 g1 g2 g3 g4 g5
 simp only[e1,eo,em,List.drop_zero,List.drop_succ_cons,List.take_succ_cons,List.take_zero]at g0 g1 g2 g3 g4 g5
 obtain⟨z0,h0,-,v0⟩:=DataW.trod_int Tryz.underlying3 g0
 obtain⟨z1,h1,-,v1⟩:=DataW.trod_int Tryz.underlying3 g1
 obtain⟨z2,h2,-,v2⟩:=DataW.trod_int Tryz.underlying3 g2
 obtain⟨z3,h3,-,v3⟩:=DataW.trod_int Tryz.underlying3 g3
 obtain⟨o,sa,sc,p0,p1,p2,p3,p4,p5,po⟩:=Sg.order_of g4
 obtain⟨m,q0,q1,q2,q3,q4,q5,q6,qo⟩:=msg g5
 simp only[List.cons.injEq,and_true]at h0 h1 h2 h3
 subst p0
 have wi:=ord_id g4
 exact⟨⟨z0,z1,z2,z3,o,sa,sc,m⟩,h0,h1,h2,h3,rfl,p1,p2,p3,p4,p5,q0,q1,q2,q3,q4,q5,q6,v0,v1,v2,v3,wi,po,qo⟩
def Cls(w:World)(a:Option Addr)(l:List Cl):Prop:=
 l= []∨∃b off,a=some ⟨b,off,none⟩∧∀(i:Nat)(c:Cl),l[i]?=some c→(w.cell? ⟨b,off+i*17,none⟩=some (.int .i64 c.d)∧w.cell? ⟨b,off+i*17+1,none⟩=some (.int .i64 c.id)∧w.cell? ⟨b,off+i*17+2,none⟩=some (.int .i64 c.i)∧w.cell? ⟨b,off+i*17+3,none⟩=some (.int .i64 c.tn)∧w.cell? ⟨b,off+i*17+4,none⟩=some (.int .i64 c.o.id)∧w.cell? ⟨b,off+i*17+5,none⟩=some (.int .i64 c.o.item)∧w.cell? ⟨b,off+i*17+6,none⟩=some (.int .i64 c.o.qty)∧w.cell? ⟨b,off+i*17+7,none⟩=some (.int .i64 c.o.client)∧w.cell? ⟨b,off+i*17+8,none⟩=some (.int .i64 c.o.price)∧w.cell? ⟨b,off+i*17+9,none⟩=some (.slice c.sa c.o.steps.length c.sc)∧w.cell? ⟨b,off+i*17+10,none⟩=some (.int .i64 c.m.k)∧w.cell? ⟨b,off+i*17+11,none⟩=some (.int .i64 c.m.fr)∧w.cell? ⟨b,off+i*17+12,none⟩=some (.int .i64 c.m.to)∧w.cell? ⟨b,off+i*17+13,none⟩=some (.int .i64 c.m.id)∧w.cell? ⟨b,off+i*17+14,none⟩=some (.int .i64 c.m.st)∧w.cell? ⟨b,off+i*17+15,none⟩=some (.int .i64 c.m.a)∧w.cell? ⟨b,off+i*17+16,none⟩=some (.int .i64 c.m.b))∧one_ok w c
theorem Cls.below{w w':World}{a:Option Addr}{l:List Cl}(h:Cls w a l)(hb:Below w.heap.size w w'):Cls w' a l:=by
 rcases h with h|⟨b,off,ha,hc⟩
 ·exact .inl h
 ·refine .inr ⟨b,off,ha,fun i c hx=>?_⟩;have cc:∀ {p:Addr}{v:Value},w.cell? p=some v→w'.cell? p=some v:=fun h=>(hb.cell (World.block_lt_of_cell? _ _ h)).trans h
  obtain⟨⟨h0,h1,h2,h3,h4,h5,h6,h7,h8,h9,h10,h11,h12,h13,h14,h15,h16⟩,hk⟩:=hc i c hx;exact⟨⟨cc h0,cc h1,cc h2,cc h3,cc h4,cc h5,cc h6,cc h7,cc h8,cc h9,cc h10,cc h11,cc h12,cc h13,cc h14,cc h15,cc h16⟩,hk.below hb⟩
def ClsIn(w:World)(l:List Cl)(a:Option Addr):Prop:=l.length≤9223372036854775807∧Cls w a l
theorem cls_opens{H:Type}{enc:TypeId×Value→H}{W:World}{a:Option Addr}{len cap:Nat}{dd:DataW H}{p:List MemPlace}(h:DataW.Trod enc Tryz.prog W 0 (fun _=>true) true 22 (.slice a len cap) dd p):
 ∃l:List Cl,len=l.length∧ClsIn W l a:=by
 obtain⟨fuel,hf⟩:=h
 have e3:Tryz.prog.cellsOf 36=17:=by kernel_rfl
 rcases Go.Deep.open_slice Tryz.underlying22 hf with⟨hcs,_⟩|⟨x,l,c,m,n,D,Pl,hcs,_,hlc,hcm,hm,_,hall⟩
 ·simp[Value.cells]at hcs;obtain⟨rfl,rfl,rfl⟩:=hcs;exact⟨[],rfl,by simp,.inl rfl⟩
 ·simp[Value.cells]at hcs;obtain⟨rfl,rfl,rfl⟩:=hcs;rw[e3]at hall;have hm':m=cap:=by simpa using hm
  have each:∀i,i<len→∃c:Cl,(W.cell? ((x.add (i*17)).add 0)=some (.int .i64 c.d)∧W.cell? ((x.add (i*17)).add 1)=some (.int .i64 c.id)∧W.cell? ((x.add (i*17)).add 2)=some (.int .i64 c.i)∧W.cell? ((x.add (i*17)).add 3)=some (.int .i64 c.tn)∧W.cell? ((x.add (i*17)).add 4)=some (.int .i64 c.o.id)∧W.cell? ((x.add (i*17)).add 5)=some (.int .i64 c.o.item)∧W.cell? ((x.add (i*17)).add 6)=some (.int .i64 c.o.qty)∧W.cell? ((x.add (i*17)).add 7)=some (.int .i64 c.o.client)∧W.cell? ((x.add (i*17)).add 8)=some (.int .i64 c.o.price)∧W.cell? ((x.add (i*17)).add 9)=some (.slice c.sa c.o.steps.length c.sc)∧W.cell? ((x.add (i*17)).add 10)=some (.int .i64 c.m.k)∧W.cell? ((x.add (i*17)).add 11)=some (.int .i64 c.m.fr)∧W.cell? ((x.add (i*17)).add 12)=some (.int .i64 c.m.to)∧W.cell? ((x.add (i*17)).add 13)=some (.int .i64 c.m.id)∧W.cell? ((x.add (i*17)).add 14)=some (.int .i64 c.m.st)∧W.cell? ((x.add (i*17)).add 15)=some (.int .i64 c.m.a)∧W.cell? ((x.add (i*17)).add 16)=some (.int .i64 c.m.b))∧one_ok W c:=fun i hi=>by
   obtain⟨cs,h1,h2⟩:=hall i (by omega);obtain⟨_,h3,h4⟩:=World.cells?_some h1;match cs,h3 with
   | [c0,c1,c2,c3,c4,c5,c6,c7,c8,c9,c10,c11,c12,c13,c14,c15,c16],_=>
     obtain⟨c,rfl,rfl,rfl,rfl,rfl,rfl,rfl,rfl,rfl,rfl,rfl,rfl,rfl,rfl,rfl,rfl,rfl,ho⟩:=one h2;exact⟨c,⟨h4 0 (by omega),h4 1 (by omega),h4 2 (by omega),h4 3 (by omega),h4 4 (by omega),h4 5 (by omega),h4 6 (by omega),h4 7 (by omega),h4 8 (by omega),h4 9 (by omega),h4 10 (by omega),h4 11 (by omega),h4 12 (by omega),h4 13 (by omega),h4 14 (by omega),h4 15 (by omega),h4 16 (by omega)⟩,ho⟩
  obtain⟨f,hf'⟩:∃f:Nat→Cl,∀i,i<len→(W.cell? ((x.add (i*17)).add 0)=some (.int .i64 (f i).d)∧W.cell? ((x.add (i*17)).add 1)=some (.int .i64 (f i).id)∧W.cell? ((x.add (i*17)).add 2)=some (.int .i64 (f i).i)∧W.cell? ((x.add (i*17)).add 3)=some (.int .i64 (f i).tn)∧W.cell? ((x.add (i*17)).add 4)=some (.int .i64 (f i).o.id)∧W.cell? ((x.add (i*17)).add 5)=some (.int .i64 (f i).o.item)∧W.cell? ((x.add (i*17)).add 6)=some (.int .i64 (f i).o.qty)∧W.cell? ((x.add (i*17)).add 7)=some (.int .i64 (f i).o.client)∧W.cell? ((x.add (i*17)).add 8)=some (.int .i64 (f i).o.price)∧W.cell? ((x.add (i*17)).add 9)=some (.slice (f i).sa (f i).o.steps.length (f i).sc)∧W.cell? ((x.add (i*17)).add 10)=some (.int .i64 (f i).m.k)∧W.cell? ((x.add (i*17)).add 11)=some (.int .i64 (f i).m.fr)∧W.cell? ((x.add (i*17)).add 12)=some (.int .i64 (f i).m.to)∧W.cell? ((x.add (i*17)).add 13)=some (.int .i64 (f i).m.id)∧W.cell? ((x.add (i*17)).add 14)=some (.int .i64 (f i).m.st)∧W.cell? ((x.add (i*17)).add 15)=some (.int .i64 (f i).m.a)∧W.cell? ((x.add (i*17)).add 16)=some (.int .i64 (f i).m.b))∧one_ok W (f i):=
   ⟨fun i=>if h:i<len then Classical.choose (each i h)else⟨0,0,0,0,⟨0,0,0,0,0,[]⟩,none,0,⟨0,0,0,0,0,0,0⟩⟩,fun i hi=>by simp only[dif_pos hi];exact Classical.choose_spec (each i hi)⟩
  refine⟨(List.range len).map f,by simp,by unfold maxLen at hcm;simp;omega,?_⟩;by_cases h0:len=0
  ·exact .inl (by simp[h0])
  ·obtain⟨b,off,rfl⟩:∃b off,x=⟨b,off,none⟩:=by
    have h1:=(hf' 0 (by omega)).1.1
    cases x with
    |mk b off pth=>
     cases pth with
     |none=>exact⟨b,off,rfl⟩
     |some q=>
      exfalso;unfold World.cell? at h1;split at h1
      ·simp[Addr.add]at h1
      ·cases h1
   refine .inr ⟨b,off,rfl,fun i c hx=>?_⟩;have hi:i<len:=by
    have:=(List.getElem?_eq_some_iff.1 hx).1
    simpa using this
   simp[hi]at hx;subst hx;obtain⟨h1,h2⟩:=hf' i hi;refine⟨?_,h2⟩;simpa[hc_add]using h1
end Go.Proofs.YthfgmpooehkhgaaGreatDoor.C22
