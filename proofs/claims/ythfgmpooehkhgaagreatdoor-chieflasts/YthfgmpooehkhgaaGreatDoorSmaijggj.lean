import Derived.Test.YthfgmpooehkhgaaGreatDoorSmigddag
import Derived.Test.YthfgmpooehkhgaaGreatDoorSmoomoeh
namespace Go.Proofs.YthfgmpooehkhgaaGreatDoor.Sg
open Go.ChangeShapes Go.WideShapes Go.ChangeAt Go.RowKit Go.Shelf
open Nat renaming le_refl→zD
open List renaming length_cons→zQ
attribute [local go_sem] Oper.semAt_some
def encA(x:Int×Int):Value:= .agg #[.int .i64 x.1,.int .i64 x.2]
def upL(k:Int):Nat→Nat→List (Int×Int)
 |_,0=>[]
 |j,m+1=>(k,(j:Int))::upL k (j+1) m
def dnL(k:Int):Nat→List (Int×Int)
 |0=>[]
 |m+1=>(k,(m:Int))::dnL k m
theorem upL_len(k:Int):∀(m j:Nat),(upL k j m).length =m
 |0,_=>rfl
 |m+1,j=>by rw[upL];simp[upL_len k m]
theorem upL_snoc(k:Int):∀(m j:Nat),upL k j (m+1)=upL k j m++ [(k,((j+m:Nat):Int))]
 |0,j=>by simp[upL]
 |m+1,j=>by
  rw[upL,upL_snoc k m (j+1),upL];simp only[List.cons_append];congr 3
  simp;omega
theorem upL_add(k:Int):∀(m j r:Nat),upL k j (m+r)=upL k j m++upL k (j+m) r
 |0,j,r=>by simp[upL]
 |m+1,j,r=>by
  rw[show m+1+r=(m+r)+1 by omega,upL,upL,upL_add k m (j+1) r,List.cons_append,show j+1+m=j+(m+1) by omega]
theorem upL_pre(k:Int){m n:Nat}(h:m≤n):upL k 0 m<+:upL k 0 n:=by
 obtain⟨r,rfl⟩:∃r,n=m+r:=⟨n-m,by omega⟩
 rw[upL_add]
 exact List.prefix_append _ _
def dnTo(k:Int)(m:Nat):Nat→List (Int×Int)
 |0=>[]
 |r+1=>dnTo k m r++ [(k,((m-r-1:Nat):Int))]
theorem dnTo_all(k:Int)(m:Nat):∀r,r≤m→dnTo k m r++dnL k (m-r)=dnL k m
 |0,_=>by simp[dnTo]
 |r+1,h=>by
  rw[dnTo,List.append_assoc];have e:dnL k (m-r)=(k,((m-r-1:Nat):Int))::dnL k (m-(r+1)):=by
   rw[show m-r=(m-r-1)+1 by omega,dnL];simp only[Nat.add_sub_cancel,show m-(r+1)=m-r-1 by omega]
  have:=dnTo_all k m r (by omega)
  rw[e]at this;simpa using this
theorem dnTo_pre(k:Int){m r:Nat}(h:r≤m):dnTo k m r<+:dnL k m:=by
 rw[←dnTo_all k m r h]
 exact List.prefix_append _ _
theorem dnTo_end(k:Int)(m:Nat):dnTo k m m=dnL k m:=by
 have:=dnTo_all k m m (zD _)
 simpa[dnL]using this
set_option maxRecDepth 100000 in
set_option maxHeartbeats 2000000 in
theorem alone1_seq{X:Nat→Prop}{Bk:Nat}{k:Int}{w:World}(hb:w.heap[Bk]?=some (.cells #[.int .i64 k] 3 (0,0))):
 SeqA Tryz.prog 34 X 266 #[.pointer (some ⟨Bk,0,none⟩)] encA [(k,0)] w:=by
 intro l J Jx W hW hwl hlW hJ hJx hY h0
 have hc:W.cell? ⟨Bk,0,none⟩=some (.int .i64 k):=by
  rw[cell_of ((hW.block _ (Array.getElem?_eq_some_iff.1 hb).1).trans hb)];rfl
 refine callsIn_wide.2 ((callsIn_wide (n:=5)).1 ?_)
 obtain⟨fn,tmps,assign,body,hy,hR⟩:=yield_any0 (m':=4) (hY [] (k,0) W h0 (by simp))
 clear hY hJ hJx h0
 refine callsIn_of_wp Tryz.func266 rfl trivial ?_ rfl
 simp only[Tryz.ntmps266,List.size_toArray,zQ,List.length_nil,Nat.reduceAdd,Nat.reduceSub,Array.replicate_succ,Array.replicate_zero,List.push_toArray,List.append_toArray,List.nil_append,List.cons_append]
 dsimp only[encA]at hy
 gi_wp2
 refine hR.mono ?_
 rintro e W3 ⟨-,(⟨rfl,hJ3⟩|⟨rfl,hJ3⟩)⟩
 ·have HJ:=hide hJ3
  clear hJ3 hR
  gi_wp2
  go_end0
  exact⟨⟨_,rfl⟩,.inl HJ.out⟩
 ·have HJ:=hide hJ3
  clear hJ3 hR
  gi_wp2
  go_end0
  exact⟨⟨_,rfl⟩,.inr ⟨_,by simp,List.prefix_refl _,HJ.out⟩⟩
set_option maxRecDepth 100000 in
set_option maxHeartbeats 2000000 in
theorem rising1_seq{X:Nat→Prop}{Bk Bs:Nat}{k:Int}{n:Nat}(hn:n≤9223372036854775807){w:World}(hb:w.heap[Bk]?=some (.cells #[.int .i64 k] 3 (0,0)))(hs:w.heap[Bs]?=some (.cells #[.int .i64 n] 3 (0,0)))(hxk:¬X Bk)(hxs:¬X Bs):
 SeqA Tryz.prog 34 X 268 #[.pointer (some ⟨Bs,0,none⟩),.pointer (some ⟨Bk,0,none⟩)] encA (upL k 0 n) w:=by
 intro l J Jx W hW hwl hlW hJ hJx hY h0
 have HBK:Hid (W.heap[Bk]?=some (.cells #[.int .i64 k] 3 (0,0))):=(hW.block _ (Array.getElem?_eq_some_iff.1 hb).1).trans hb
 have HBS:Hid (W.heap[Bs]?=some (.cells #[.int .i64 n] 3 (0,0))):=(hW.block _ (Array.getElem?_eq_some_iff.1 hs).1).trans hs
 have HKL:Hid (¬(X Bk∨Bk=l)∧¬(X Bs∨Bs=l)):=by
  have h1:=(Array.getElem?_eq_some_iff.1 hb).1
  have h2:=(Array.getElem?_eq_some_iff.1 hs).1
  exact⟨fun h=>h.elim hxk (fun e=>by omega),fun h=>h.elim hxs (fun e=>by omega)⟩
 have HT:Hid (3≠34):=by show _≠_;decide
 refine callsIn_wide.2 ((callsIn_wide (n:=5)).1 ?_)
 have HY:Hid (∀pre x W1,J pre W1→pre++ [x]<+:upL k 0 n→YieldAt Fence.wide 4 Tryz.prog l #[encA x] W1 fun e W'=>Kept 34 (fun k=>X k∨k=l) W1 W'∧((e= .returned (.bool true)∧J (pre++ [x]) W')∨(e= .returned (.bool false)∧Jx (pre++ [x]) W'))):=fun pre x W1 h1 h2=>yield_any0 (hY pre x W1 h1 h2)
 have HJ0:=hide h0
 clear hY hJ hJx h0 hb hs hxk hxs hW
 refine callsIn_of_wp Tryz.func268 rfl trivial ?_ rfl
 simp only[Tryz.ntmps268,List.size_toArray,zQ,List.length_nil,Nat.reduceAdd,Nat.reduceSub,Array.replicate_succ,Array.replicate_zero,List.push_toArray,List.append_toArray,List.nil_append,List.cons_append]
 gi_wp2
 gi_loopw [4] (fun i wr=>∃j:Nat,i= .int .i64 j∧j≤n∧Hid (J (upL k 0 j) wr)∧Hid (wr.heap[Bk]?=some (.cells #[.int .i64 k] 3 (0,0)))∧Hid (wr.heap[Bs]?=some (.cells #[.int .i64 n] 3 (0,0)))) (fun i _=>n-(intOf i).toNat)
 case atStart=>exact⟨0,rfl,Nat.zero_le _,HJ0,HBK,HBS⟩
 case round=>
  obtain⟨j,rfl,hj,HJ,HB,HS⟩:=hrel;have c1:wr.cell? ⟨Bk,0,none⟩=some (.int .i64 k):=by rw[cell_of HB.out];rfl
  have c2:wr.cell? ⟨Bs,0,none⟩=some (.int .i64 n):=by rw[cell_of HS.out];rfl
  by_cases hlt:j<n
  ·have hpre:upL k 0 j++ [(k,(j:Int))]=upL k 0 (j+1):=by rw[upL_snoc];simp
   obtain⟨fn,tmps,assign,body,hy,hR⟩:=HY.out (upL k 0 j) (k,(j:Int)) wr HJ.out (by rw[hpre];exact upL_pre k (by omega));rw[hpre]at hR;have HPE:=hide hpre
   clear hpre;dsimp only[encA]at hy;have q1:(j:Int)<(n:Int):=by omega
   gi_wp2
   refine hR.mono ?_;rintro e W3 ⟨hk3,(⟨rfl,hJ3⟩|⟨rfl,hJ3⟩)⟩
   ·have HJ3:=hide hJ3
    have HB3:=hide (hk3.cell HB.out HKL.out.1 HT.out)
    have HS3:=hide (hk3.cell HS.out HKL.out.2 HT.out)
    clear hJ3 hk3 hR c1 c2
    gi_wp2
    go_roundw
    case rel=>exact⟨j+1,by go_num,by omega,HJ3,HB3,HS3⟩
    case measure=>simp[intOf];omega
   ·have HJ3:=hide hJ3
    clear hJ3 hk3 hR c1 c2
    gi_wp2
    go_end0
    exact⟨⟨_,rfl⟩,.inr ⟨_,by rw[upL];simp,upL_pre k (show j+1≤n by omega),HJ3.out⟩⟩
  ·have q1:¬(j:Int)<(n:Int):=by omega
   have HJ3:Hid (J (upL k 0 n) wr):=by
    have:=HJ.out
    rwa [show j=n by omega]at this
   gi_wp2
   refine⟨fun _ h=>(by cases h),?_⟩
   gi_wp2
   go_end0
   exact⟨⟨_,rfl⟩,.inl HJ3.out⟩
set_option maxRecDepth 100000 in
set_option maxHeartbeats 2000000 in
theorem falling1_seq{X:Nat→Prop}{Bk Bs:Nat}{k:Int}{n:Nat}(hn:n≤9223372036854775807){w:World}(hb:w.heap[Bk]?=some (.cells #[.int .i64 k] 3 (0,0)))(hs:w.heap[Bs]?=some (.cells #[.int .i64 n] 3 (0,0)))(hxk:¬X Bk):
 SeqA Tryz.prog 34 X 267 #[.pointer (some ⟨Bs,0,none⟩),.pointer (some ⟨Bk,0,none⟩)] encA (dnL k n) w:=by
 intro l J Jx W hW hwl hlW hJ hJx hY h0
 have HBK:Hid (W.heap[Bk]?=some (.cells #[.int .i64 k] 3 (0,0))):=(hW.block _ (Array.getElem?_eq_some_iff.1 hb).1).trans hb
 have hcs:W.cell? ⟨Bs,0,none⟩=some (.int .i64 n):=by rw[cell_of ((hW.block _ (Array.getElem?_eq_some_iff.1 hs).1).trans hs)];rfl
 have HKL:Hid (¬(X Bk∨Bk=l)):=by
  have h1:=(Array.getElem?_eq_some_iff.1 hb).1
  exact fun h=>h.elim hxk (fun e=>by omega)
 have HT:Hid (3≠34):=by show _≠_;decide
 refine callsIn_wide.2 ((callsIn_wide (n:=5)).1 ?_)
 have HY:Hid (∀pre x W1,J pre W1→pre++ [x]<+:dnL k n→YieldAt Fence.wide 4 Tryz.prog l #[encA x] W1 fun e W'=>Kept 34 (fun k=>X k∨k=l) W1 W'∧((e= .returned (.bool true)∧J (pre++ [x]) W')∨(e= .returned (.bool false)∧Jx (pre++ [x]) W'))):=fun pre x W1 h1 h2=>yield_any0 (hY pre x W1 h1 h2)
 have HJ0:=hide h0
 clear hY hJ hJx h0 hb hs hxk hW
 refine callsIn_of_wp Tryz.func267 rfl trivial ?_ rfl
 simp only[Tryz.ntmps267,List.size_toArray,zQ,List.length_nil,Nat.reduceAdd,Nat.reduceSub,Array.replicate_succ,Array.replicate_zero,List.push_toArray,List.append_toArray,List.nil_append,List.cons_append]
 gi_wp2
 gi_loopw [4] (fun i wr=>∃(r:Nat)(z:Int),i= .int .i64 z∧Hid (z=(n:Int)-r-1)∧r≤n∧ -1≤z∧z≤9223372036854775807∧Hid (J (dnTo k n r) wr)∧Hid (wr.heap[Bk]?=some (.cells #[.int .i64 k] 3 (0,0)))) (fun i _=>(intOf i+1).toNat)
 case atStart=>exact⟨0,(n:Int)-1,by go_num,by show _=_;simp,Nat.zero_le _,by omega,by omega,HJ0,HBK⟩
 case round=>
  obtain⟨r,z,rfl,HZ,hr,hz0,hz1,HJ,HB⟩:=hrel;have c1:wr.cell? ⟨Bk,0,none⟩=some (.int .i64 k):=by rw[cell_of HB.out];rfl
  by_cases hlt:0≤z
  ·have hpre:dnTo k n r++ [(k,z)]=dnTo k n (r+1):=by rw[dnTo];have:=HZ.out;congr 3;omega
   have HRN:Hid (r+1≤n):=by show _≤_;have:=HZ.out;omega
   obtain⟨fn,tmps,assign,body,hy,hR⟩:=HY.out (dnTo k n r) (k,z) wr HJ.out (by rw[hpre];exact dnTo_pre k HRN.out);rw[hpre]at hR;have HPE:=hide hpre
   clear hpre;dsimp only[encA]at hy;have q1:z≥0:=hlt
   gi_wp2
   refine hR.mono ?_;rintro e W3 ⟨hk3,(⟨rfl,hJ3⟩|⟨rfl,hJ3⟩)⟩
   ·have HJ3:=hide hJ3
    have HB3:=hide (hk3.cell HB.out HKL.out HT.out)
    clear hJ3 hk3 hR c1
    gi_wp2
    go_roundw
    case rel=>exact⟨r+1,z-1,by go_num,by show _=_;have:=HZ.out;push_cast;omega,HRN.out,by omega,by omega,HJ3,HB3⟩
    case measure=>simp[intOf];omega
   ·have HJ3:=hide hJ3
    clear hJ3 hk3 hR c1
    gi_wp2
    go_end0
    exact⟨⟨_,rfl⟩,.inr ⟨_,by rw[dnTo];simp,dnTo_pre k HRN.out,HJ3.out⟩⟩
  ·have q1:¬z≥0:=by omega
   have HJ3:Hid (J (dnL k n) wr):=by
    have:=HJ.out
    rwa [show r=n by have:=HZ.out;omega,dnTo_end]at this
   gi_wp2
   refine⟨fun _ h=>(by cases h),?_⟩
   gi_wp2
   go_end0
   exact⟨⟨_,rfl⟩,.inl HJ3.out⟩
attribute [local go_sem] Oper.semAt_some
structure Pt where
 gf:Nat
 lb:Array Value
 L:List (Int×Int)
def PtsAt(w:World)(a:Option Addr)(Ps:List Pt)(X:Nat→Prop):Prop:=
 Ps= []∨∃(b:Nat)(cs:Array Value),a=some ⟨b,0,none⟩∧¬X b∧w.heap[b]?=some (.cells cs 213 (0,0))∧∀(i:Nat)(p:Pt),Ps[i]?=some p→cs[i]?=some (Value.func (.func p.gf) #[] p.lb)
theorem PtsAt.kept{w w':World}{a:Option Addr}{Ps:List Pt}{X:Nat→Prop}(h:PtsAt w a Ps X)(hk:Kept 34 X w w'):PtsAt w' a Ps X:=by
 rcases h with h|⟨b,cs,ha,hx,hc,hp⟩
 ·exact .inl h
 ·exact .inr ⟨b,cs,ha,hx,hk.cell hc hx (by decide),hp⟩
theorem flat_take{Ps:List Pt}{i:Nat}{p:Pt}(h:Ps[i]?=some p):(Ps.take (i+1)).flatMap Pt.L=(Ps.take i).flatMap Pt.L++p.L:=by
 obtain⟨hi,rfl⟩:=List.getElem?_eq_some_iff.1 h
 rw[List.take_succ_eq_append_getElem hi,List.flatMap_append]
 simp
theorem flat_pre{Ps:List Pt}{i:Nat}{p:Pt}(h:Ps[i]?=some p){q:List (Int×Int)}(hq:q<+:p.L):(Ps.take i).flatMap Pt.L++q<+:Ps.flatMap Pt.L:=by
 have e:Ps.flatMap Pt.L=(Ps.take (i+1)).flatMap Pt.L++(Ps.drop (i+1)).flatMap Pt.L:=by rw[←List.flatMap_append,List.take_append_drop]
 rw[e,flat_take h]
 obtain⟨r,hr⟩:=hq
 exact⟨r++(Ps.drop (i+1)).flatMap Pt.L,by rw[←hr];simp⟩
set_option maxRecDepth 100000 in
set_option maxHeartbeats 4000000 in
theorem joined1_seq{X:Nat→Prop}{Bp:Nat}{a:Option Addr}{c:Nat}{Ps:List Pt}{w:World}(hb:w.heap[Bp]?=some (.cells #[.slice a Ps.length c] 267 (0,0)))(hxw:∀k,X k→k<w.heap.size)(hn:Ps.length≤1000)
 (hP:PtsAt w a Ps (fun k=>X k∨w.heap.size≤k)) (heg:∀p∈Ps,∀args w,(callFunc p.gf args).run Tryz.prog w= .ok (.enter p.gf args) w)
 (hseq:∀p∈Ps,∀(X':Nat→Prop)(w':World),(∀k,X' k→X k∨w.heap.size≤k)→Kept 34 X' w w'→SeqA Tryz.prog 34 X' p.gf p.lb encA p.L w'):
 SeqA Tryz.prog 34 X 265 #[.pointer (some ⟨Bp,0,none⟩)] encA (Ps.flatMap Pt.L) w:=by
 intro l J Jx W hW hwl hlW hJ hJx hY h0
 refine callsIn_wide.2 ((callsIn_wide (n:=5)).1 ?_)
 obtain⟨W0,hW0⟩:∃W0,W0=W.alloc (.cells #[.func (.yield l) #[] #[]] 268):=⟨_,rfl⟩
 have hb0:Below W.heap.size W W0:=by rw[hW0];exact(Below.refl _ _).alloc (zD _) _
 have hz0:W0.heap.size=W.heap.size+1:=by rw[hW0];simp
 have hby:W0.heap[W.heap.size]?=some (.cells #[.func (.yield l) #[] #[]] 268 (0,0)):=by rw[hW0];exact World.alloc_heap_new W _
 have hbw:=bel_on' hW hb0
 have hbp0:W0.heap[Bp]?=some (.cells #[.slice a Ps.length c] 267 (0,0)):=(hbw.block _ (Array.getElem?_eq_some_iff.1 hb).1).trans hb
 have hcp:W0.cell? ⟨Bp,0,none⟩=some (.slice a Ps.length c):=by rw[cell_of hbp0];rfl
 have hnf:∀u:World,(binOp BinOp.eql 268 (.func (.yield l) #[] #[]) .nilFunc).run Tryz.prog u= .ok (.bool false) u:=fun _=>by kernel_rfl
 have HX:Hid (∀k,(X k∨k=l)→X k∨w.heap.size≤k):=fun k h=>h.elim .inl (fun e=> .inr (by omega))
 have HXW:Hid (∀k,(X k∨k=l)→k<W.heap.size):=fun k h=>h.elim (fun h=>by have:=hxw k h;have:=hW.size;omega) (fun e=>by omega)
 have HP0:Hid (PtsAt W0 a Ps (fun k=>X k∨k=l)):=by
  rcases hP with h|⟨b,cs,ha,hx,hc,hp⟩
  ·exact .inl h
  ·refine .inr ⟨b,cs,ha,fun h=>hx (HX.out _ h),(hbw.block _ (Array.getElem?_eq_some_iff.1 hc).1).trans hc,hp⟩
 have HEG:=hide heg
 have HSQ:Hid (∀p∈Ps,∀(w':World),Kept 34 (fun k=>X k∨k=l) W0 w'→SeqA Tryz.prog 34 (fun k=>X k∨k=l) p.gf p.lb encA p.L w'):=fun p hp w' hk=>hseq p hp _ w' HX.out ((Kept.of_below hbw).trans hk)
 have HY:Hid (∀pre x W1,J pre W1→pre++ [x]<+:Ps.flatMap Pt.L→YieldAt Fence.wide 0 Tryz.prog l #[encA x] W1 fun e W'=>Kept 34 (fun k=>X k∨k=l) W1 W'∧((e= .returned (.bool true)∧J (pre++ [x]) W')∨(e= .returned (.bool false)∧Jx (pre++ [x]) W'))):=hY
 have HJ:=hide hJ
 have HJX:=hide hJx
 have HJ0:Hid (J [] W0):=own_grows hJ h0 hb0
 have HBY:=hide hby
 have HWZ:=hide hz0
 have HW0:=hide hW0
 clear hY hJ hJx h0 hb hxw hP heg hseq hW hbw hb0 hby hz0 hbp0
 rw[hW0]at hcp
 clear hW0
 refine callsIn_of_wp_marks Tryz.func265 rfl trivial ?_ rfl
 simp only[Tryz.ntmps265,List.size_toArray,zQ,List.length_nil,Nat.reduceAdd,Nat.reduceSub,Array.replicate_succ,Array.replicate_zero,List.push_toArray,List.append_toArray,List.nil_append,List.cons_append]
 gi_wp2
 refine wpIn_loop (fun a' W'=>∃(i:Nat)(Ds:List Nat)(u4 u11 u12 u13 u14 u20:Value),i≤Ps.length∧Hid (J ((Ps.take i).flatMap Pt.L) W')∧Hid (Kept 34 (fun k=>X k∨k=l) W0 W')∧Hid (Ds.Nodup∧∀D∈Ds,W0.heap.size≤D∧W'.heap[D]?=some (.deferred (some [])))∧
  a'= {tmps:=#[.func (.yield l) #[] #[],.pointer (some ⟨Bp,0,none⟩),.pointer (some ⟨W.heap.size,0,none⟩),undef,u4,undef,.func (.yield l) #[] #[],.bool false,.slice a Ps.length c,.int .i64 Ps.length,.int .i64 i,u11,u12,u13,u14,undef,undef,undef,undef,undef,u20],defers:=marks Ds}) (fun a' _=>Ps.length-(intOf (a'.tmps.getD 10 undef)).toNat) ?_ ?_
 ·refine⟨0,[],_,_,_,_,_,_,Nat.zero_le _,(by have:=HJ0.out;rw[HW0.out]at this;simpa using hide this),?_,⟨List.nodup_nil,(fun D h=>by cases h)⟩,rfl⟩;show Kept _ _ _ _
  rw[HW0.out];exact Kept.refl _ _ _
 rintro a' W1 ⟨i,Ds,u4,u11,u12,u13,u14,u20,hi,HJI,HK,HD,rfl⟩
 by_cases hlt:i<Ps.length
 rotate_left
 ·have q1:¬(i:Int)<(Ps.length:Int):=by omega
  have HJE:Hid (J (Ps.flatMap Pt.L) W1):=by
   have:=HJI.out
   rwa [show i=Ps.length by omega,List.take_length]at this
  gi_wp2
  refine leaves_marks (B:=W.heap.size) (J:=fun W'=>J (Ps.flatMap Pt.L) W') rfl (fun s=>HJ.out (Ps.flatMap Pt.L)) (fun v W' h=>⟨⟨_,rfl⟩,.inl h⟩) Ds W1 HJE.out HD.out.1 (fun D hD=>?_);have:=HD.out.2 D hD
  have:=HWZ.out
  exact⟨by omega,(HD.out.2 D hD).2⟩
 obtain⟨p,hp⟩:∃p,Ps[i]?=some p:=⟨_,List.getElem?_eq_getElem hlt⟩
 obtain⟨b,cs,rfl,hcx⟩:∃(b:Nat)(cs:Array Value),a=some ⟨b,0,none⟩∧W1.cell? ⟨b,i,none⟩=some (.func (.func p.gf) #[] p.lb):=by
  rcases HP0.out.kept HK.out with h|⟨b,cs,ha,_,hc,hpp⟩
  ·subst h;simp at hlt
  ·exact⟨b,cs,ha,by rw[cell_of hc];exact hpp i p hp⟩
 have q1:(i:Int)<(Ps.length:Int):=by omega
 gi_wp2_with fail
 have hpm:p∈Ps:=List.mem_of_getElem? hp
 have hz1:W0.heap.size≤W1.heap.size:=HK.out.size
 have hzw:=HWZ.out
 refine range_acts (t:=34) (X:=fun k=>X k∨k=l) (enc:=encA) (L:=p.L) (I:=fun q W2=>J ((Ps.take i).flatMap Pt.L++q) W2∧Kept 34 (fun k=>X k∨k=l) W1 W2) (Ix:=fun c q W2=>(c= .ret ∧Jx ((Ps.take i).flatMap Pt.L++q) W2)∧Kept 34 (fun k=>X k∨k=l) W1 W2)
  (Ax:=fun x a' W2=>∃Bx,W2.heap[Bx]?=some (.cells #[.int .i64 x.1,.int .i64 x.2] 216 (0,0))∧a'= {tmps:=#[.func (.yield l) #[] #[],.pointer (some ⟨Bp,0,none⟩),.pointer (some ⟨W.heap.size,0,none⟩),undef,.func (.func p.gf) #[] p.lb,.pointer (some ⟨Bx,0,none⟩),.func (.yield l) #[] #[],.bool false,.slice (some ⟨b,0,none⟩) Ps.length c,.int .i64 Ps.length,.int .i64 i,.bool true,.pointer (some ⟨b,i,none⟩),.func (.func p.gf) #[] p.lb,.func (.func p.gf) #[] p.lb,encA x,undef,undef,undef,undef,u20],defers:=[]})
  (gf:=p.gf) (lb:=p.lb) rfl (HEG.out p hpm) (HSQ.out p hpm W1 HK.out) (fun k h=>by have:=HXW.out k h;omega) rfl ?oi (fun c=>?ox) (fun x a'=>?oa) ?start ?assign ?body ?done ?stop
 case oi=>exact OwnFrom.and (fun s A A' row hs hg hr=>own_mono HJ.out (B':=W1.heap.size) (by omega) _ A A' row hs hg hr) (Kept.own (zD _))
 case ox=>exact OwnFrom.and (fun s A A' row hs hg hr=>⟨hs.1,own_mono HJX.out (B':=W1.heap.size) (by omega) _ A A' row hs.2 hg hr⟩) (Kept.own (zD _))
 case oa=>
  intro _ A A' row hs hg hr;obtain⟨Bx,h1,h2⟩:=hs;refine⟨Bx,(hg.block Bx (Array.getElem?_eq_some_iff.1 h1).1 (fun e=>?_)).trans h1,h2⟩;obtain⟨_,o,ho,hc⟩:=hr Bx e.symm;rw[h1]at ho;cases ho;cases hc
 case start=>exact⟨by simpa using HJI.out,Kept.refl _ _ _⟩
 case assign=>
  intro l' pre x W2 K hI hK;have hbA:Below W2.heap.size W2 (W2.alloc (.cells #[.int .i64 x.1,.int .i64 x.2] 216)):=(Below.refl _ _).alloc (zD _) _
  have HK2:=hK {tmps:=#[.func (.yield l) #[] #[],.pointer (some ⟨Bp,0,none⟩),.pointer (some ⟨W.heap.size,0,none⟩),undef,.func (.func p.gf) #[] p.lb,.pointer (some ⟨W2.heap.size,0,none⟩),.func (.yield l) #[] #[],.bool false,.slice (some ⟨b,0,none⟩) Ps.length c,.int .i64 Ps.length,.int .i64 i,.bool true,.pointer (some ⟨b,i,none⟩),.func (.func p.gf) #[] p.lb,.func (.func p.gf) #[] p.lb,encA x,undef,undef,undef,undef,u20],defers:=[]} _ (Kept.of_below hbA) ⟨own_grows HJ.out hI.1 hbA,hI.2.trans (Kept.of_below hbA)⟩ ⟨W2.heap.size,World.alloc_heap_new W2 _,rfl⟩
  clear hK;unfold encA at HK2 ⊢
  gi_wp2
  exact HK2
 case body=>
  rintro l' q x a' W2 ⟨hJ2,hk2⟩ ⟨Bx,hbx,rfl⟩ hpq;have e0:W2.cell? ⟨Bx,0,none⟩=some (.int .i64 x.1):=by rw[cell_of hbx];rfl
  have e1:W2.cell? ⟨Bx,1,none⟩=some (.int .i64 x.2):=by rw[cell_of hbx];rfl
  have ey:W2.cell? ⟨W.heap.size,0,none⟩=some (.func (.yield l) #[] #[]):=by
   rw[cell_of ((HK.out.trans hk2).cell HBY.out (fun h=>by have:=HXW.out _ h;omega) (by decide))];rfl
  obtain⟨fn,tmps,assign,body,hy,hR⟩:=yield_any (l':=l') (m':=0) (HY.out ((Ps.take i).flatMap Pt.L++q) x W2 hJ2 (by rw[List.append_assoc];exact flat_pre hp hpq));have HK2:=hide hk2
  clear hJ2 hk2 hbx hcx hcp;dsimp only[encA]at hy ⊢
  gi_wp2
  refine⟨rfl,hR.mono ?_⟩;rintro e W3 ⟨hk3,(⟨rfl,hJ3⟩|⟨rfl,hJ3⟩)⟩
  ·rw[List.append_assoc]at hJ3;have HJ3:=hide hJ3
   have HK3:=hide hk3
   clear hJ3 hk3 hR
   gi_wp2
   exact⟨HK3.out,HJ3.out,HK2.out.trans HK3.out⟩
  ·rw[List.append_assoc]at hJ3;have HJ3:=hide hJ3
   have HK3:=hide hk3
   clear hJ3 hk3 hR
   gi_wp2
   exact⟨HK3.out,⟨rfl,HJ3.out⟩,HK2.out.trans HK3.out⟩
 case done=>
  rintro D W2 hD ⟨hJ2,hk2⟩ hK;rw[←flat_take hp]at hJ2;have HJ2:=hide hJ2
  have HK2:=hide hk2
  have HD2:Hid ((D::Ds).Nodup ∧∀D'∈D::Ds,W0.heap.size≤D'∧W2.heap[D']?=some (.deferred (some []))):=by
   refine⟨List.nodup_cons.2 ⟨fun h=>?_,HD.out.1⟩,fun D' hD'=>?_⟩
   ·have:=(Array.getElem?_eq_some_iff.1 (HD.out.2 D h).2).1
    omega
   ·rcases List.mem_cons.1 hD' with rfl|h
    ·exact⟨by omega,hK⟩
    ·exact⟨(HD.out.2 D' h).1,hk2.other (HD.out.2 D' h).2 (fun h'=>by have:=HXW.out _ h';have:=(HD.out.2 D' h).1;omega) rfl⟩
  clear hJ2 hk2 hcx hcp
  gi_wp2
  refine⟨⟨i+1,D::Ds,.func (.func p.gf) #[] p.lb,.bool true,.pointer (some ⟨b,i,none⟩),.func (.func p.gf) #[] p.lb,.func (.func p.gf) #[] p.lb,.int .i64 (i+1),by omega,HJ2,HK.out.trans HK2.out,HD2,?_⟩,?_⟩
  ·simp[marks]
  ·simp[intOf];omega
 case stop=>
  rintro D c' pre W2 hD hne hpr ⟨⟨rfl,hJ2⟩,hk2⟩ hK;have HJ2:=hide hJ2
  have HD2:Hid ((D::Ds).Nodup ∧∀D'∈D::Ds,W0.heap.size≤D'∧W2.heap[D']?=some (.deferred (some []))):=by
   refine⟨List.nodup_cons.2 ⟨fun h=>?_,HD.out.1⟩,fun D' hD'=>?_⟩
   ·have:=(Array.getElem?_eq_some_iff.1 (HD.out.2 D h).2).1
    omega
   ·rcases List.mem_cons.1 hD' with rfl|h
    ·exact⟨by omega,hK⟩
    ·exact⟨(HD.out.2 D' h).1,hk2.other (HD.out.2 D' h).2 (fun h'=>by have:=HXW.out _ h';have:=(HD.out.2 D' h).1;omega) rfl⟩
  clear hJ2 hk2 hcx hcp
  gi_wp2
  refine leaves_marks (B:=W.heap.size) (J:=fun W'=>Jx ((Ps.take i).flatMap Pt.L++pre) W') rfl (fun s=>HJX.out _) (fun v W' h=>⟨⟨_,rfl⟩,.inr ⟨_,by simp[hne],flat_pre hp hpr,h⟩⟩) (D::Ds) W2 HJ2.out HD2.out.1 (fun D' hD'=>?_);have:=HD2.out.2 D' hD'
  exact⟨by omega,(HD2.out.2 D' hD').2⟩
end Go.Proofs.YthfgmpooehkhgaaGreatDoor.Sg
