import Derived.Test.YthfgmpooehkhgaaGreatDoorSmoomoeh
import Derived.Lib.SmallJoins
namespace Go.Proofs.YthfgmpooehkhgaaGreatDoor.Sg
open Go.ChangeShapes Go.WideShapes Go.ChangeAt Go.RowKit Go.Joins
theorem ord_add(b o i:Nat):(⟨b,o,none⟩:Addr).add i=⟨b,o+i,none⟩:=by cases i<;>simp[Addr.add]
theorem ord_six{α:Type}{cs:Array α}(h:cs.size=6):∃c0 c1 c2 c3 c4 c5,cs= #[c0,c1,c2,c3,c4,c5]:=by
 obtain⟨l⟩:=cs
 match l,h with
 | [c0,c1,c2,c3,c4,c5],_=>exact⟨c0,c1,c2,c3,c4,c5,rfl⟩
def OdIn(w:World)(o:Od)(a:Option Addr)(cap:Nat):Prop:=o.steps.length≤9223372036854775807∧Sts w a o.steps∧(a=none→o.steps= []∧cap=0)∧o.steps.length≤cap
theorem OdIn.below{w w':World}{o:Od}{a:Option Addr}{cap:Nat}(h:OdIn w o a cap)(hb:Below w.heap.size w w'):OdIn w' o a cap:=⟨h.1,h.2.1.below hb,h.2.2⟩
theorem steps_open{H:Type}{enc:TypeId×Value→H}{W:World}{fuel:Nat}{c5:Value}{x:DataW H×List MemPlace}(h:DataW.trod enc Tryz.prog W 0 (fun _=>true) true fuel 30 [c5]=some x):
 ∃(a:Option Addr)(l:List (Int×Int))(cap:Nat),c5= .slice a l.length cap∧l.length≤9223372036854775807∧Sts W a l∧(a=none→l= []∧cap=0)∧l.length≤cap:=by
 have e2:Tryz.prog.cellsOf 107=2:=by kernel_rfl
 have e1:Tryz.prog.cellsOf 3=1:=by kernel_rfl
 rcases Go.Deep.open_slice Tryz.underlying30 h with⟨hcs,_⟩|⟨y,len,cap,m,n,D,Pl,hcs,_,hlc,hcm,hm,_,hall⟩
 ·simp only[List.cons.injEq,and_true]at hcs;exact⟨none,[],0,hcs,by simp,.inl rfl,fun _=>⟨rfl,rfl⟩,Nat.le_refl _⟩
 ·simp only[List.cons.injEq,and_true]at hcs;rw[e2]at hall;have hm':m=cap:=by simpa using hm
  have each:∀i,i<len→∃p:Int×Int,W.cell? ((y.add (i*2)).add 0)=some (.int .i64 p.1)∧W.cell? ((y.add (i*2)).add 1)=some (.int .i64 p.2):=fun i hi=>by
   obtain⟨cs,h1,h2⟩:=hall i (by omega);obtain⟨_,h3,h4⟩:=World.cells?_some h1;match cs,h3 with
   | [c0,c1],_=>
     obtain⟨y0,y1,k,-,-,g0,g1⟩:=trod_struct2 Tryz.underlying107 h2;dsimp only at g0 g1;simp only[e1,List.drop_zero,List.drop_succ_cons,List.take_succ_cons,List.take_zero]at g0 g1;obtain⟨d,r0,-,-⟩:=DataW.trod_int Tryz.underlying3 g0;obtain⟨s,r1,-,-⟩:=DataW.trod_int Tryz.underlying3 g1;simp only[List.cons.injEq,and_true]at r0 r1;subst r0 r1;exact⟨(d,s),h4 0 (by omega),h4 1 (by omega)⟩
  obtain⟨f,hf'⟩:∃f:Nat→Int×Int,∀i,i<len→W.cell? ((y.add (i*2)).add 0)=some (.int .i64 (f i).1)∧W.cell? ((y.add (i*2)).add 1)=some (.int .i64 (f i).2):=
   ⟨fun i=>if h:i<len then Classical.choose (each i h)else(0,0),fun i hi=>by simp only[dif_pos hi];exact Classical.choose_spec (each i hi)⟩
  refine⟨some y,(List.range len).map f,cap,by simpa using hcs,by unfold maxLen at hcm;simp;omega,?_,(fun h=>by cases h),by simpa using hlc⟩;by_cases h0:len=0
  ·exact .inl (by simp[h0])
  ·obtain⟨b,off,rfl⟩:∃b off,y=⟨b,off,none⟩:=by
    have h1:=(hf' 0 (by omega)).1
    obtain⟨b,off,rfl,_⟩:=ints_at (w:=W) (a:=y) (k:= .i64) (zs:=[(f 0).1]) (fun i hi=>by
     have e:i=0:=by simp at hi;omega
     subst e;simpa[Addr.add]using h1) (by simp)
    exact⟨b,off,rfl⟩
   refine .inr ⟨b,off,rfl,fun i hi=>?_⟩;have hi':i<len:=by simpa using hi
   have e:stAt ((List.range len).map f) i=f i:=by
    unfold stAt;simp[List.getD,hi']
   rw[e];simpa[ord_add]using hf' i hi'
theorem trod_struct6{H:Type}{enc:TypeId×Value→H}{P:Program}{w:World}{base:Nat}{spare:Nat→Bool}{held:Bool}{t:TypeId}{f0 f1 f2 f3 f4 f5:Field}{fuel:Nat}{cs:List Value}{x:DataW H×List MemPlace}(ht:P.underlying t=some (.struct #[f0,f1,f2,f3,f4,f5]))(h:DataW.trod enc P w base spare held fuel t cs=some x):
 ∃y0 y1 y2 y3 y4 y5 n,DataW.trod enc P w base spare held n f0.type ((cs.drop f0.offset).take (P.cellsOf f0.type))=some y0∧DataW.trod enc P w base spare held n f1.type ((cs.drop f1.offset).take (P.cellsOf f1.type))=some y1∧DataW.trod enc P w base spare held n f2.type ((cs.drop f2.offset).take (P.cellsOf f2.type))=some y2∧
  DataW.trod enc P w base spare held n f3.type ((cs.drop f3.offset).take (P.cellsOf f3.type))=some y3∧DataW.trod enc P w base spare held n f4.type ((cs.drop f4.offset).take (P.cellsOf f4.type))=some y4∧DataW.trod enc P w base spare held n f5.type ((cs.drop f5.offset).take (P.cellsOf f5.type))=some y5:=by
 obtain⟨xs,n,_,rfl,hl,hlen,hf⟩:=DataW.trod_struct ht h
 match xs,hlen with
 | [y0,y1,y2,y3,y4,y5],_=>exact⟨y0,y1,y2,y3,y4,y5,n,by simpa using hf 0 f0 rfl,by simpa using hf 1 f1 rfl,by simpa using hf 2 f2 rfl,by simpa using hf 3 f3 rfl,by simpa using hf 4 f4 rfl,by simpa using hf 5 f5 rfl⟩
theorem order_of{H:Type}{enc:TypeId×Value→H}{W:World}{fuel:Nat}{c0 c1 c2 c3 c4 c5:Value}{x:DataW H×List MemPlace}(h:DataW.trod enc Tryz.prog W 0 (fun _=>true) true fuel 32 [c0,c1,c2,c3,c4,c5]=some x):
 ∃(o:Od)(a:Option Addr)(cap:Nat),c0= .int .i64 o.id∧c1= .int .i64 o.item∧c2= .int .i64 o.qty∧c3= .int .i64 o.client∧c4= .int .i64 o.price∧c5= .slice a o.steps.length cap∧OdIn W o a cap:=by
 have e1:Tryz.prog.cellsOf 3=1:=by kernel_rfl
 have en:Tryz.prog.cellsOf 30=1:=by kernel_rfl
 obtain⟨y0,y1,y2,y3,y4,y5,n,g0,g1,g2,g3,g4,g5⟩:=trod_struct6 Tryz.underlying32 h
 dsimp only at g0 g1 g2 g3 g4 g5
 simp only[e1,en,List.drop_zero,List.drop_succ_cons,List.take_succ_cons,List.take_zero]at g0 g1 g2 g3 g4 g5
 obtain⟨z0,h0,-,-⟩:=DataW.trod_int Tryz.underlying3 g0
 obtain⟨z1,h1,-,-⟩:=DataW.trod_int Tryz.underlying3 g1
 obtain⟨z2,h2,-,-⟩:=DataW.trod_int Tryz.underlying3 g2
 obtain⟨z3,h3,-,-⟩:=DataW.trod_int Tryz.underlying3 g3
 obtain⟨z4,h4,-,-⟩:=DataW.trod_int Tryz.underlying3 g4
 simp only[List.cons.injEq,and_true]at h0 h1 h2 h3 h4
 obtain⟨a,l,cap,h5,hin⟩:=steps_open g5
 exact⟨⟨z0,z1,z2,z3,z4,l⟩,a,cap,h0,h1,h2,h3,h4,h5,hin⟩
theorem order_opens{H:Type}{enc:TypeId×Value→H}{W:World}{c0 c1 c2 c3 c4 c5:Value}{dd:DataW H}{p:List MemPlace}(h:DataW.Trod enc Tryz.prog W 0 (fun _=>true) true 32 (.agg #[c0,c1,c2,c3,c4,c5]) dd p):
 ∃(o:Od)(a:Option Addr)(cap:Nat),c0= .int .i64 o.id∧c1= .int .i64 o.item∧c2= .int .i64 o.qty∧c3= .int .i64 o.client∧c4= .int .i64 o.price∧c5= .slice a o.steps.length cap∧OdIn W o a cap:=by
 obtain⟨fuel,hf⟩:=h
 exact order_of (by simpa[Value.cells]using hf)
end Go.Proofs.YthfgmpooehkhgaaGreatDoor.Sg
