import Derived.Test.YthfgmpooehkhgaaGreatDoorSmmhklnf
import Derived.RangeFuncNested
import Derived.RangeFuncBound
import Derived.Shelf.AbstractIn
import Derived.Shelf.RegionOpen
import Derived.OwnWalkIn
import Derived.LoopNIn
import Derived.LoopIn
namespace Go.Proofs.YthfgmpooehkhgaaGreatDoor.Rg
open Go Go.RowKit
open Nat renaming le_refl→zD,le_trans→zK
open Go.World renaming putObj_heap_other→zM
structure Kept (E:Nat→Obj→Prop) (W W':World):Prop where
 os:W'.os=W.os
 tape:W'.tape=W.tape
 output:W'.output=W.output
 size:W.heap.size≤W'.heap.size
 block:∀(k:Nat)(o:Obj),W.heap[k]?=some o→¬E k o→W'.heap[k]?=some o
theorem Kept.refl(E:Nat→Obj→Prop)(W:World):Kept E W W:=⟨rfl,rfl,rfl,zD _,fun _ _ h _=>h⟩
theorem Kept.trans{E:Nat→Obj→Prop}{A B C:World}(h:Kept E A B)(k:Kept E B C):Kept E A C:=
 ⟨k.os.trans h.os,k.tape.trans h.tape,k.output.trans h.output,zK h.size k.size,fun i o hi hx=>k.block i o (h.block i o hi hx) hx⟩
theorem Kept.mono{E F:Nat→Obj→Prop}{A B:World}(h:Kept E A B)(hXY:∀k o,E k o→F k o):Kept F A B:=
 ⟨h.os,h.tape,h.output,h.size,fun i o hi hx=>h.block i o hi (fun e=>hx (hXY _ _ e))⟩
theorem Kept.of_below{E:Nat→Obj→Prop}{A B:World}(h:Below A.heap.size A B):Kept E A B:=
 ⟨h.os,h.tape,h.output,h.size,fun i _ hi _=>(h.block i (Array.getElem?_eq_some_iff.1 hi).1).trans hi⟩
theorem Kept.putObj{E:Nat→Obj→Prop}{W:World}{l:Nat}(o:Obj)(hl:∀o',E l o'):Kept E W (W.putObj l o):=
 ⟨rfl,rfl,rfl,by simp,fun _ _ hi hx=>(zM (fun e=>hx (by rw[e];exact hl _))).trans hi⟩
theorem Kept.setCell{E:Nat→Obj→Prop}{W:World}{a:Addr}(v:Value)(hl:∀o',E a.block o'):Kept E W (W.setCell a v):=
 ⟨rfl,rfl,rfl,by simp,fun k _ hi hx=>(Below.heap_setCell _ _ _ _ (fun e=>hx (by rw[e];exact hl _))).trans hi⟩
theorem Kept.grown{E:Nat→Obj→Prop}{W W':World}{row:Option Nat}(h:W.grownBy W' row)(hl:∀k o',row=some k→E k o'):Kept E W W':=
 ⟨h.os,h.tape,h.output,h.size,fun k o hi hx=>(h.block k (Array.getElem?_eq_some_iff.1 hi).1 (fun e=>hx (hl k o e.symm))).trans hi⟩
theorem Kept.alloc{E:Nat→Obj→Prop}{W:World}(o:Obj):Kept E W (W.alloc o):=Kept.of_below ((Below.refl _ _).alloc (zD _) _)
theorem Kept.bel{E:Nat→Obj→Prop}{A C:World}(h:Kept E A C){B:Nat}(hs:B≤A.heap.size)(hE:∀k o,E k o→B≤k):Below B A C:=
 ⟨h.os,h.tape,h.output,h.size,fun k hk=>by
   have hlt:k<A.heap.size:=by omega
   have e:A.heap[k]?=some A.heap[k]:=Array.getElem?_eq_getElem hlt
   rw[e];exact h.block k _ e (fun x=>by have:=hE _ _ x;omega)⟩
theorem Kept.own{β:Type}{E:Nat→Obj→Prop}{w:World}{B:Nat}(hB:w.heap.size≤B):OwnFrom B (fun(_:β) W=>Kept E w W):=
 fun _ A A' row hs hg hr=>⟨hg.os.trans hs.os,hg.tape.trans hs.tape,hg.output.trans hs.output,zK hs.size hg.size,fun k o hk hx=>by
  have hA:=hs.block k o hk hx
  refine(hg.block k (Array.getElem?_eq_some_iff.1 hA).1 (fun e=>?_)).trans hA;have h1:=(hr k e.symm).1
  have h2:=(Array.getElem?_eq_some_iff.1 hk).1
  omega⟩
theorem own_mono{β:Type}{B B':Nat}{J:β→World→Prop}(h:OwnFrom B J)(hB:B≤B'):OwnFrom B' J:=fun s W W' row hs hg hr=>h s W W' row hs hg (fun r e=>⟨zK hB (hr r e).1,(hr r e).2⟩)
theorem own_grows{β:Type}{X:Nat}{J:β→World→Prop}(h:OwnFrom X J){s:β}{W W':World}(hs:J s W)(hb:Below W.heap.size W W'):J s W':=
 h s W W' none hs ⟨hb.os,hb.tape,hb.output,hb.size,fun k hk _=>hb.block k hk⟩ (fun r e=>by cases e)
theorem yield_any{m m':Nat}{P:Program}{l l':Nat}{args:Array Value}{W:World}{R:Ending→World→Prop}(h:YieldAt Fence.wide m P l args W R):YieldAt (Fence.wide.inRound l') m' P l args W R:=by
 obtain⟨fn,tmps,assign,body,hy,h1,h2⟩:=h
 exact⟨fn,tmps,assign,body,hy,h1,fun c cs _=>h2 c cs (room_wide _)⟩
theorem yield_any0{m m':Nat}{P:Program}{l:Nat}{args:Array Value}{W:World}{R:Ending→World→Prop}(h:YieldAt Fence.wide m P l args W R):YieldAt Fence.wide m' P l args W R:=by
 obtain⟨fn,tmps,assign,body,hy,h1,h2⟩:=h
 exact⟨fn,tmps,assign,body,hy,h1,fun c cs _=>h2 c cs (room_wide _)⟩
def RecAt(l D:Nat)(r:Loop)(W:World):Prop:=W.heap[l]?=some (.loop r)∧W.heap[D]?=some (.deferred (some []))
theorem RecAt.turn{l D:Nat}{r:Loop}{W:World}(h:RecAt l D r W)(hne:D≠l)(r':Loop):RecAt l D r' (W.putObj l (.loop r')):=
 ⟨World.putObj_heap_same (Array.getElem?_eq_some_iff.1 h.1).1,(zM hne).trans h.2⟩
theorem RecAt.kept{l D:Nat}{r:Loop}{E:Nat→Obj→Prop}{W W':World}(h:RecAt l D r W)(hk:Kept E W W')(hl:∀r,¬E l (.loop r))(hD:¬E D (.deferred (some []))):RecAt l D r W':=⟨hk.block _ _ h.1 (hl _),hk.block _ _ h.2 hD⟩
theorem RecAt.own{β:Type}{l D B:Nat}{r:Loop}(hl:l<B)(hD:D<B):OwnFrom B (fun(_:β) W=>RecAt l D r W):=fun _ A A' row hs hg hr=>
 ⟨(hg.block l (Array.getElem?_eq_some_iff.1 hs.1).1 (fun e=>by have:=(hr l e.symm).1;omega)).trans hs.1,(hg.block D (Array.getElem?_eq_some_iff.1 hs.2).1 (fun e=>by have:=(hr D e.symm).1;omega)).trans hs.2⟩
def SeqA{α:Type}(P:Program)(E:Nat→Obj→Prop)(g:Nat)(lb:Array Value)(enc:α→Value)(L:List α)(w:World):Prop:=
 ∀(l:Nat)(J Jx:List α→World→Prop)(W:World),Below w.heap.size w W→w.heap.size≤l→l<W.heap.size→OwnFrom W.heap.size J→OwnFrom W.heap.size Jx→
  (∀pre x W1,J pre W1→pre++ [x]<+:L→YieldAt Fence.wide 0 P l #[enc x] W1 fun e W'=>Kept (fun k o=>E k o∨k=l) W1 W'∧((e= .returned (.bool true)∧J (pre++ [x]) W')∨(e= .returned (.bool false)∧Jx (pre++ [x]) W')))→
  J [] W→CallsIn Fence.wide 0 P g (#[.func (.yield l) #[] #[]]++lb) W fun e W'=>(∃v,e= .returned v)∧(J L W'∨∃pre,pre≠[]∧pre<+:L∧Jx pre W')
section
variable {n:Nat}{P:Program}{α:Type}{E:Nat→Obj→Prop}{ps:Array Tmp}{assign body:Code}{tmps:Array Value}{fn:FuncId}{enc:α→Value}{L:List α}
 {I:List α→World→Prop} {Ix:Code→List α→World→Prop} {Ax:α→Act→World→Prop}
def postA{α:Type}(E:Nat→Obj→Prop)(I:List α→World→Prop)(Ix:Code→List α→World→Prop)(xs:List α)(W:World):Exit→Act→World→Prop
 | .normal,_,W'=>Kept E W W'∧I xs W'
 | .ret,_,W'=>Kept E W W'∧Ix .ret xs W'
 | .exit id,_,W'=>Kept E W W'∧Ix (.exit id) xs W'
 | .goto g,_,W'=>Kept E W W'∧Ix (.goto g) xs W'
 | .panic _,_,_=>False
 | .outgrown,_,_=>False
def BodyA(n:Nat)(P:Program)(E:Nat→Obj→Prop)(body:Code)(I:List α→World→Prop)(Ix:Code→List α→World→Prop)(Ax:α→Act→World→Prop)(L:List α):Prop:=
 ∀(l:Nat)(pre:List α)(x:α)(a':Act)(W:World),I pre W→Ax x a' W→pre++ [x]<+:L→body.wpIn (Fence.wide.inRound l) n P (postA E I Ix (pre++ [x]) W) a' W
def AssignA(n:Nat)(P:Program)(E:Nat→Obj→Prop)(assign:Code)(ps:Array Tmp)(tmps:Array Value)(enc:α→Value)(I:List α→World→Prop)(Ax:α→Act→World→Prop):Prop:=
 ∀(l:Nat)(pre:List α)(x:α)(W:World)(K:Act→World→Prop),I pre W→(∀a' W',Kept E W W'→I pre W'→Ax x a' W'→K a' W')→
  assign.wpIn (Fence.wide.inRound l) n P (Exit.then K (fun _ _ _=>False)) {tmps:=(ps.zip #[enc x]).foldl (fun t (p,v)=>t.setIfInBounds p v) tmps,defers:=[]} W
theorem round_acts{l D B:Nat}(hlD:D≠l)(hlB:B≤l)(hl:∀r,¬E l (.loop r))(hD:¬E D (.deferred (some [])))(hps:ps.size=1)(hI:OwnFrom B I)(hIx:∀c,OwnFrom B (Ix c))(hAx:∀x a',OwnFrom B (fun(_:Unit) W=>Ax x a' W))
 (has:AssignA n P E assign ps tmps enc I Ax) (hbd:BodyA n P E body I Ix Ax L)
 {rec:LoopState→Option Code→Loop} (hrec:rec=fun st pe=>{state:=st,pending:=pe,fn,tmps,params:=ps,assign,body,defers:=D})
 {pre:List α} {x:α} {W:World} (hi:I pre W) (hat:RecAt l D (rec .ready none) W) (hp:pre++ [x]<+:L):
 YieldAt Fence.wide n P l #[enc x] W fun e W'=>Kept (fun k o=>E k o∨k=l) W W'∧((e= .returned (.bool true)∧I (pre++ [x]) W'∧RecAt l D (rec .ready none) W')∨(e= .returned (.bool false)∧∃c,Ix c (pre++ [x]) W'∧RecAt l D (rec .done (some c)) W')):=by
 have hy:=run_yield (P:=P) (args:=#[enc x]) hat.1 (by rw[hrec];exact hps.symm)
 rw[hrec]at hy
 refine⟨fn,_,assign,body,hy,roundIn_of_wpIn (F:=Fence.wide) trivial (has l pre x W _ hi ?_)⟩
 intro a' Wa ka hia hax
 have hata:=hat.kept ka hl hD
 refine⟨_,run_beginRound hata.1 (by rw[hrec]),?_⟩
 have hatb:=hata.turn hlD {rec .ready none with state:= .busy}
 have kpb:Kept (fun k o=>E k o∨k=l) Wa (Wa.putObj l (.loop {rec .ready none with state:= .busy})):=Kept.putObj _ (fun _=> .inr rfl)
 refine wpIn_mono (hbd l pre x a' _ (hI.putObj _ hia hlB hata.1 rfl) ((hAx x a').putObj (s:=()) _ hax hlB hata.1 rfl) hp) ?_
 have fin:∀(jump:Option Code)(W3:World),Kept E (Wa.putObj l (.loop {rec .ready none with state:= .busy})) W3→
  ∃r' r,r'=rec (if jump.isNone then .ready else .done) jump∧W3.heap[l]?=some (.loop r)∧(Instr.endRound l jump).run P W3= .ok (.bool jump.isNone) (W3.putObj l (.loop r'))∧RecAt l D r' (W3.putObj l (.loop r'))∧Kept (fun k o=>E k o∨k=l) W (W3.putObj l (.loop r')):=fun jump W3 hk3=>by
  have h3:=hatb.kept hk3 hl hD
  have he:=run_endRound (P:=P) jump h3.1
  refine⟨_,_,rfl,h3.1,?_,h3.turn hlD _,(ka.mono (fun _ _ h=> .inl h)).trans (kpb.trans ((hk3.mono (fun _ _ h=> .inl h)).trans (Kept.putObj _ (fun _=> .inr rfl))))⟩;rw[hrec]at he ⊢;exact he
 rintro e a3 W3 hp3
 cases e with
 |normal=>
  obtain⟨k3,i3⟩:=hp3;obtain⟨r',r,hr',hl3,he,hat3,hk⟩:=fin none W3 k3;subst hr';exact⟨_,_,he,hk,.inl ⟨rfl,hI.putObj _ i3 hlB hl3 rfl,hat3⟩⟩
 |ret=>
  obtain⟨r',r,hr',hl3,he,hat3,hk⟩:=fin (some .ret) W3 hp3.1;subst hr';exact⟨_,_,he,hk,.inr ⟨rfl,.ret,(hIx _).putObj _ hp3.2 hlB hl3 rfl,hat3⟩⟩
 |exit id=>
  obtain⟨r',r,hr',hl3,he,hat3,hk⟩:=fin (some (.exit id)) W3 hp3.1;subst hr';exact⟨_,_,he,hk,.inr ⟨rfl,.exit id,(hIx _).putObj _ hp3.2 hlB hl3 rfl,hat3⟩⟩
 |goto g=>
  obtain⟨r',r,hr',hl3,he,hat3,hk⟩:=fin (some (.goto g)) W3 hp3.1;subst hr';exact⟨_,_,he,hk,.inr ⟨rfl,.goto g,(hIx _).putObj _ hp3.2 hlB hl3 rfl,hat3⟩⟩
 |panic ch=>exact hp3.elim
 |outgrown=>exact hp3.elim
theorem range_acts{g:Operand}{Q:Exit→Act→World→Prop}{a:Act}{w:World}{gf:Nat}{lb:Array Value}(hg:a.eval g= .func (.func gf) #[] lb)
 (eg:∀args w,(callFunc gf args).run P w= .ok (.enter gf args) w) (hseq:SeqA P E gf lb enc L w) (hE:∀k o,w.heap.size≤k→o.isCells=false→¬E k o) (hps:ps.size=1)
 (hI:OwnFrom w.heap.size I) (hIx:∀c,OwnFrom w.heap.size (Ix c)) (hAx:∀x a',OwnFrom w.heap.size (fun(_:Unit) W=>Ax x a' W)) (h0:I [] w)
 (has:AssignA 0 P E assign ps a.tmps enc I Ax) (hbd:BodyA 0 P E body I Ix Ax L)
 (hdone:∀(D:Nat)(W:World),w.heap.size≤D→I L W→W.heap[D]?=some (.deferred (some []))→Q .normal {a with defers:={target:= .collected D,args:=#[]}::a.defers} W)
 (hstop:∀(D:Nat)(c:Code)(pre:List α)(W:World),w.heap.size≤D→pre≠[]→pre<+:L→Ix c pre W→W.heap[D]?=some (.deferred (some []))→c.wpIn Fence.wide n P Q {a with defers:={target:= .collected D,args:=#[]}::a.defers} W):
 (Code.rangeFunc g ps assign body).wpIn Fence.wide n P Q a w:=by
 refine wpIn_rangeFunc fun fn _=>?_
 obtain⟨rec,hrec⟩:∃rec:LoopState→Option Code→Loop,rec=fun st pe=>{state:=st,pending:=pe,fn,tmps:=a.tmps,params:=ps,assign,body,defers:=w.heap.size}:=⟨_,rfl⟩
 obtain⟨W1,hW1⟩:∃W1,W1=(w.alloc (.deferred (some []))).alloc (.loop (rec .ready none)):=⟨_,rfl⟩
 have hb1:Below w.heap.size w W1:=by rw[hW1];exact((Below.refl _ w).alloc (zD _) _).alloc (by simp) _
 have hz1:W1.heap.size=w.heap.size+2:=by rw[hW1];simp
 have hat1:RecAt (w.heap.size+1) w.heap.size (rec .ready none) W1:=by
  have h2:=World.alloc_heap_new (w.alloc (.deferred (some []))) (.loop (rec .ready none))
  rw[World.size_alloc]at h2;rw[hW1];exact⟨h2,(Below.heap_alloc _ _ _ (by simp)).trans (World.alloc_heap_new w _)⟩
 have hnl:∀r,¬E (w.heap.size+1) (.loop r):=fun r=>hE _ _ (by omega) rfl
 have hnD:¬E w.heap.size (.deferred (some [])):=hE _ _ (zD _) rfl
 refine⟨w.heap.size+1,[{target:= .collected w.heap.size,args:=#[]}],W1,{target:= .fn (.func gf) lb,args:=#[.func (.yield (w.heap.size+1)) #[] #[]]},W1,gf,#[.func (.yield (w.heap.size+1)) #[] #[]]++lb,W1,?_,?_,?_,?_,(fun h=>by cases h),?_⟩
 ·rw[hW1,hrec];exact run_enterLoop_outer _ _ _ _ _
 ·simp only[resolve,hg];simp[go_sem]
 ·intro f' hf';simp[Target.leads]at hf';exact trivial
 ·simp[invoke,go_sem,eg]
 refine callsIn_wide.2 (callsIn_wide.1 ((hseq (w.heap.size+1) (fun pre W=>I pre W∧RecAt (w.heap.size+1) w.heap.size (rec .ready none) W) (fun pre W=>∃c,Ix c pre W∧RecAt (w.heap.size+1) w.heap.size (rec .done (some c)) W) W1 hb1 (by omega) (by omega) ?o1 ?o2 ?rd ⟨own_grows hI h0 hb1,hat1⟩).mono ?fin))
 case o1=>exact OwnFrom.and (own_mono hI (by omega)) (RecAt.own (by omega) (by omega))
 case o2=>
  intro s A A' row hs hg' hr;obtain⟨c,hc,hk⟩:=hs;exact⟨c,own_mono (hIx c) (B':=W1.heap.size) (by omega) s A A' row hc hg' hr,RecAt.own (β:=Unit) (B:=W1.heap.size) (by omega) (by omega) () A A' row hk hg' hr⟩
 case rd=>
  rintro pre x W ⟨hi,hat⟩ hp;exact round_acts (by omega) (by omega) hnl hnD hps hI hIx hAx has hbd hrec hi hat hp
 case fin=>
  rintro e W2 ⟨⟨v,rfl⟩,(⟨hi,hat⟩|⟨pre,hne,hpr,c,hi,hat⟩)⟩
  ·have he:=run_endLoop (P:=P) hat.1 (by rw[hrec];simp)
   exact⟨none,_,by rw[hrec]at he;exact he,hdone _ _ (zD _) (hI.putObj _ hi (by omega) hat.1 rfl) ((zM (by omega)).trans hat.2)⟩
  ·have he:=run_endLoop (P:=P) hat.1 (by rw[hrec];simp)
   exact⟨some c,_,by rw[hrec]at he;exact he,hstop _ c pre _ (zD _) hne hpr ((hIx c).putObj _ hi (by omega) hat.1 rfl) ((zM (by omega)).trans hat.2)⟩
end
def marks(Ds:List Nat):List Deferred:=Ds.map fun D=>{target:= .collected D,args:=#[]}
theorem leaves_marks{n:Nat}{P:Program}{fn:Func}{tmps:Array Value}{R:Ending→World→Prop}(hr:fn.results= #[]){B:Nat}{J:World→Prop}(hJ:OwnFrom B (fun(_:Unit) W=>J W))(hR:∀v W,J W→R (.returned v) W):
 ∀(Ds:List Nat)(W:World),J W→Ds.Nodup→(∀D∈Ds,B≤D∧W.heap[D]?=some (.deferred (some [])))→LeavesInM Fence.wide n P fn tmps R (marks Ds) .returning W
 | [],W,h,_,_=>⟨_,results_none hr _ _ _,hR _ _ h⟩
 |D::Ds,W,h,hn,hd=>by
  have h1:=hd D (by simp)
  rw[List.nodup_cons]at hn;refine⟨by simp,.inl ⟨_,_,rfl,run_takeDeferred h1.2,?_⟩⟩;refine leaves_marks hr hJ hR Ds _ (hJ.putObj (s:=()) _ h h1.1 h1.2 rfl) hn.2 (fun D' hD'=>?_);have h2:=hd D' (by simp[hD'])
  exact⟨h2.1,(zM (fun e=>hn.1 (by rw[←e];exact hD'))).trans h2.2⟩
end Go.Proofs.YthfgmpooehkhgaaGreatDoor.Rg
namespace Go.Proofs.YthfgmpooehkhgaaGreatDoor.Sg
open Go Go.RowKit
open Nat renaming le_refl→zD,le_trans→zK
open Go.World renaming putObj_heap_other→zM
structure Kept (t:TypeId) (X:Nat→Prop) (W W':World):Prop where
 os:W'.os=W.os
 tape:W'.tape=W.tape
 output:W'.output=W.output
 size:W.heap.size≤W'.heap.size
 block:∀(k:Nat)(o:Obj),W.heap[k]?=some o→¬X k→(∀cs f,o≠ .cells cs t f)→W'.heap[k]?=some o
theorem Kept.refl(t:TypeId)(X:Nat→Prop)(W:World):Kept t X W W:=⟨rfl,rfl,rfl,zD _,fun _ _ h _ _=>h⟩
theorem Kept.trans{t:TypeId}{X:Nat→Prop}{A B C:World}(h:Kept t X A B)(k:Kept t X B C):Kept t X A C:=
 ⟨k.os.trans h.os,k.tape.trans h.tape,k.output.trans h.output,zK h.size k.size,fun i o hi hx hc=>k.block i o (h.block i o hi hx hc) hx hc⟩
theorem Kept.mono{t:TypeId}{X Y:Nat→Prop}{A B:World}(h:Kept t X A B)(hXY:∀k,X k→Y k):Kept t Y A B:=
 ⟨h.os,h.tape,h.output,h.size,fun i o hi hx hc=>h.block i o hi (fun e=>hx (hXY _ e)) hc⟩
theorem Kept.of_below{t:TypeId}{X:Nat→Prop}{A B:World}(h:Below A.heap.size A B):Kept t X A B:=
 ⟨h.os,h.tape,h.output,h.size,fun i _ hi _ _=>(h.block i (Array.getElem?_eq_some_iff.1 hi).1).trans hi⟩
theorem Kept.putObj{t:TypeId}{X:Nat→Prop}{W:World}{l:Nat}(o:Obj)(hl:X l):Kept t X W (W.putObj l o):=
 ⟨rfl,rfl,rfl,by simp,fun _ _ hi hx _=>(zM (fun e=>hx (by rw[e];exact hl))).trans hi⟩
theorem Kept.own{β:Type}{t:TypeId}{X:Nat→Prop}{w:World}{B:Nat}(hB:w.heap.size≤B):OwnFrom B (fun(_:β) W=>Kept t X w W):=
 fun _ A A' row hs hg hr=>⟨hg.os.trans hs.os,hg.tape.trans hs.tape,hg.output.trans hs.output,zK hs.size hg.size,fun k o hk hx hc=>by
  have hA:=hs.block k o hk hx hc
  refine(hg.block k (Array.getElem?_eq_some_iff.1 hA).1 (fun e=>?_)).trans hA;have h1:=(hr k e.symm).1
  have h2:=(Array.getElem?_eq_some_iff.1 hk).1
  omega⟩
theorem Kept.cell{t:TypeId}{X:Nat→Prop}{A B:World}(h:Kept t X A B){b:Nat}{cs:Array Value}{u:TypeId}{f:Nat×Nat}(hb:A.heap[b]?=some (.cells cs u f))(hx:¬X b)(hu:u≠t):B.heap[b]?=some (.cells cs u f):=
 h.block b _ hb hx (fun cs' f' e=>by cases e;exact hu rfl)
theorem Kept.other{t:TypeId}{X:Nat→Prop}{A B:World}(h:Kept t X A B){b:Nat}{o:Obj}(hb:A.heap[b]?=some o)(hx:¬X b)(ho:o.isCells=false):B.heap[b]?=some o:=
 h.block b _ hb hx (fun cs' f' e=>by subst e;cases ho)
theorem own_mono{β:Type}{B B':Nat}{J:β→World→Prop}(h:OwnFrom B J)(hB:B≤B'):OwnFrom B' J:=fun s W W' row hs hg hr=>h s W W' row hs hg (fun r e=>⟨zK hB (hr r e).1,(hr r e).2⟩)
theorem own_grows{β:Type}{X:Nat}{J:β→World→Prop}(h:OwnFrom X J){s:β}{W W':World}(hs:J s W)(hb:Below W.heap.size W W'):J s W':=
 h s W W' none hs ⟨hb.os,hb.tape,hb.output,hb.size,fun k hk _=>hb.block k hk⟩ (fun r e=>by cases e)
theorem yield_any{m m':Nat}{P:Program}{l l':Nat}{args:Array Value}{W:World}{R:Ending→World→Prop}(h:YieldAt Fence.wide m P l args W R):YieldAt (Fence.wide.inRound l') m' P l args W R:=by
 obtain⟨fn,tmps,assign,body,hy,h1,h2⟩:=h
 exact⟨fn,tmps,assign,body,hy,h1,fun c cs _=>h2 c cs (room_wide _)⟩
theorem yield_any0{m m':Nat}{P:Program}{l:Nat}{args:Array Value}{W:World}{R:Ending→World→Prop}(h:YieldAt Fence.wide m P l args W R):YieldAt Fence.wide m' P l args W R:=by
 obtain⟨fn,tmps,assign,body,hy,h1,h2⟩:=h
 exact⟨fn,tmps,assign,body,hy,h1,fun c cs _=>h2 c cs (room_wide _)⟩
def RecAt(l D:Nat)(r:Loop)(W:World):Prop:=W.heap[l]?=some (.loop r)∧W.heap[D]?=some (.deferred (some []))
theorem RecAt.turn{l D:Nat}{r:Loop}{W:World}(h:RecAt l D r W)(hne:D≠l)(r':Loop):RecAt l D r' (W.putObj l (.loop r')):=
 ⟨World.putObj_heap_same (Array.getElem?_eq_some_iff.1 h.1).1,(zM hne).trans h.2⟩
theorem RecAt.kept{l D:Nat}{r:Loop}{t:TypeId}{X:Nat→Prop}{W W':World}(h:RecAt l D r W)(hk:Kept t X W W')(hl:¬X l)(hD:¬X D):RecAt l D r W':=⟨hk.other h.1 hl rfl,hk.other h.2 hD rfl⟩
theorem RecAt.own{β:Type}{l D B:Nat}{r:Loop}(hl:l<B)(hD:D<B):OwnFrom B (fun(_:β) W=>RecAt l D r W):=fun _ A A' row hs hg hr=>
 ⟨(hg.block l (Array.getElem?_eq_some_iff.1 hs.1).1 (fun e=>by have:=(hr l e.symm).1;omega)).trans hs.1,(hg.block D (Array.getElem?_eq_some_iff.1 hs.2).1 (fun e=>by have:=(hr D e.symm).1;omega)).trans hs.2⟩
def SeqA{α:Type}(P:Program)(t:TypeId)(X:Nat→Prop)(g:Nat)(lb:Array Value)(enc:α→Value)(L:List α)(w:World):Prop:=
 ∀(l:Nat)(J Jx:List α→World→Prop)(W:World),Below w.heap.size w W→w.heap.size≤l→l<W.heap.size→OwnFrom W.heap.size J→OwnFrom W.heap.size Jx→
  (∀pre x W1,J pre W1→pre++ [x]<+:L→YieldAt Fence.wide 0 P l #[enc x] W1 fun e W'=>Kept t (fun k=>X k∨k=l) W1 W'∧((e= .returned (.bool true)∧J (pre++ [x]) W')∨(e= .returned (.bool false)∧Jx (pre++ [x]) W')))→
  J [] W→CallsIn Fence.wide 0 P g (#[.func (.yield l) #[] #[]]++lb) W fun e W'=>(∃v,e= .returned v)∧(J L W'∨∃pre,pre≠[]∧pre<+:L∧Jx pre W')
section
variable {n:Nat}{P:Program}{α:Type}{t:TypeId}{X:Nat→Prop}{ps:Array Tmp}{assign body:Code}{tmps:Array Value}{fn:FuncId}{enc:α→Value}{L:List α}
 {I:List α→World→Prop} {Ix:Code→List α→World→Prop} {Ax:α→Act→World→Prop}
def postA{α:Type}(t:TypeId)(X:Nat→Prop)(I:List α→World→Prop)(Ix:Code→List α→World→Prop)(xs:List α)(W:World):Exit→Act→World→Prop
 | .normal,_,W'=>Kept t X W W'∧I xs W'
 | .ret,_,W'=>Kept t X W W'∧Ix .ret xs W'
 | .exit id,_,W'=>Kept t X W W'∧Ix (.exit id) xs W'
 | .goto g,_,W'=>Kept t X W W'∧Ix (.goto g) xs W'
 | .panic _,_,_=>False
 | .outgrown,_,_=>False
def BodyA(n:Nat)(P:Program)(t:TypeId)(X:Nat→Prop)(body:Code)(I:List α→World→Prop)(Ix:Code→List α→World→Prop)(Ax:α→Act→World→Prop)(L:List α):Prop:=
 ∀(l:Nat)(pre:List α)(x:α)(a':Act)(W:World),I pre W→Ax x a' W→pre++ [x]<+:L→body.wpIn (Fence.wide.inRound l) n P (postA t X I Ix (pre++ [x]) W) a' W
def AssignA(n:Nat)(P:Program)(t:TypeId)(X:Nat→Prop)(assign:Code)(ps:Array Tmp)(tmps:Array Value)(enc:α→Value)(I:List α→World→Prop)(Ax:α→Act→World→Prop):Prop:=
 ∀(l:Nat)(pre:List α)(x:α)(W:World)(K:Act→World→Prop),I pre W→(∀a' W',Kept t X W W'→I pre W'→Ax x a' W'→K a' W')→
  assign.wpIn (Fence.wide.inRound l) n P (Exit.then K (fun _ _ _=>False)) {tmps:=(ps.zip #[enc x]).foldl (fun t (p,v)=>t.setIfInBounds p v) tmps,defers:=[]} W
theorem round_acts{l D B:Nat}(hlD:D≠l)(hlB:B≤l)(hl:¬X l)(hD:¬X D)(hps:ps.size=1)(hI:OwnFrom B I)(hIx:∀c,OwnFrom B (Ix c))(hAx:∀x a',OwnFrom B (fun(_:Unit) W=>Ax x a' W))
 (has:AssignA n P t X assign ps tmps enc I Ax) (hbd:BodyA n P t X body I Ix Ax L)
 {rec:LoopState→Option Code→Loop} (hrec:rec=fun st pe=>{state:=st,pending:=pe,fn,tmps,params:=ps,assign,body,defers:=D})
 {pre:List α} {x:α} {W:World} (hi:I pre W) (hat:RecAt l D (rec .ready none) W) (hp:pre++ [x]<+:L):
 YieldAt Fence.wide n P l #[enc x] W fun e W'=>Kept t (fun k=>X k∨k=l) W W'∧((e= .returned (.bool true)∧I (pre++ [x]) W'∧RecAt l D (rec .ready none) W')∨(e= .returned (.bool false)∧∃c,Ix c (pre++ [x]) W'∧RecAt l D (rec .done (some c)) W')):=by
 have hy:=run_yield (P:=P) (args:=#[enc x]) hat.1 (by rw[hrec];exact hps.symm)
 rw[hrec]at hy
 refine⟨fn,_,assign,body,hy,roundIn_of_wpIn (F:=Fence.wide) trivial (has l pre x W _ hi ?_)⟩
 intro a' Wa ka hia hax
 have hata:=hat.kept ka hl hD
 refine⟨_,run_beginRound hata.1 (by rw[hrec]),?_⟩
 have hatb:=hata.turn hlD {rec .ready none with state:= .busy}
 have kpb:Kept t (fun k=>X k∨k=l) Wa (Wa.putObj l (.loop {rec .ready none with state:= .busy})):=Kept.putObj _ (.inr rfl)
 refine wpIn_mono (hbd l pre x a' _ (hI.putObj _ hia hlB hata.1 rfl) ((hAx x a').putObj (s:=()) _ hax hlB hata.1 rfl) hp) ?_
 have fin:∀(jump:Option Code)(W3:World),Kept t X (Wa.putObj l (.loop {rec .ready none with state:= .busy})) W3→
  ∃r' r,r'=rec (if jump.isNone then .ready else .done) jump∧W3.heap[l]?=some (.loop r)∧(Instr.endRound l jump).run P W3= .ok (.bool jump.isNone) (W3.putObj l (.loop r'))∧RecAt l D r' (W3.putObj l (.loop r'))∧Kept t (fun k=>X k∨k=l) W (W3.putObj l (.loop r')):=fun jump W3 hk3=>by
  have h3:=hatb.kept hk3 hl hD
  have he:=run_endRound (P:=P) jump h3.1
  refine⟨_,_,rfl,h3.1,?_,h3.turn hlD _,(ka.mono (fun _ h=> .inl h)).trans (kpb.trans ((hk3.mono (fun _ h=> .inl h)).trans (Kept.putObj _ (.inr rfl))))⟩;rw[hrec]at he ⊢;exact he
 rintro e a3 W3 hp3
 cases e with
 |normal=>
  obtain⟨k3,i3⟩:=hp3;obtain⟨r',r,hr',hl3,he,hat3,hk⟩:=fin none W3 k3;subst hr';exact⟨_,_,he,hk,.inl ⟨rfl,hI.putObj _ i3 hlB hl3 rfl,hat3⟩⟩
 |ret=>
  obtain⟨r',r,hr',hl3,he,hat3,hk⟩:=fin (some .ret) W3 hp3.1;subst hr';exact⟨_,_,he,hk,.inr ⟨rfl,.ret,(hIx _).putObj _ hp3.2 hlB hl3 rfl,hat3⟩⟩
 |exit id=>
  obtain⟨r',r,hr',hl3,he,hat3,hk⟩:=fin (some (.exit id)) W3 hp3.1;subst hr';exact⟨_,_,he,hk,.inr ⟨rfl,.exit id,(hIx _).putObj _ hp3.2 hlB hl3 rfl,hat3⟩⟩
 |goto g=>
  obtain⟨r',r,hr',hl3,he,hat3,hk⟩:=fin (some (.goto g)) W3 hp3.1;subst hr';exact⟨_,_,he,hk,.inr ⟨rfl,.goto g,(hIx _).putObj _ hp3.2 hlB hl3 rfl,hat3⟩⟩
 |panic ch=>exact hp3.elim
 |outgrown=>exact hp3.elim
theorem range_acts{g:Operand}{Q:Exit→Act→World→Prop}{a:Act}{w:World}{gf:Nat}{lb:Array Value}(hg:a.eval g= .func (.func gf) #[] lb)
 (eg:∀args w,(callFunc gf args).run P w= .ok (.enter gf args) w) (hseq:SeqA P t X gf lb enc L w) (hX:∀k,X k→k<w.heap.size) (hps:ps.size=1)
 (hI:OwnFrom w.heap.size I) (hIx:∀c,OwnFrom w.heap.size (Ix c)) (hAx:∀x a',OwnFrom w.heap.size (fun(_:Unit) W=>Ax x a' W)) (h0:I [] w)
 (has:AssignA 0 P t X assign ps a.tmps enc I Ax) (hbd:BodyA 0 P t X body I Ix Ax L)
 (hdone:∀(D:Nat)(W:World),w.heap.size≤D→I L W→W.heap[D]?=some (.deferred (some []))→Q .normal {a with defers:={target:= .collected D,args:=#[]}::a.defers} W)
 (hstop:∀(D:Nat)(c:Code)(pre:List α)(W:World),w.heap.size≤D→pre≠[]→pre<+:L→Ix c pre W→W.heap[D]?=some (.deferred (some []))→c.wpIn Fence.wide n P Q {a with defers:={target:= .collected D,args:=#[]}::a.defers} W):
 (Code.rangeFunc g ps assign body).wpIn Fence.wide n P Q a w:=by
 refine wpIn_rangeFunc fun fn _=>?_
 obtain⟨rec,hrec⟩:∃rec:LoopState→Option Code→Loop,rec=fun st pe=>{state:=st,pending:=pe,fn,tmps:=a.tmps,params:=ps,assign,body,defers:=w.heap.size}:=⟨_,rfl⟩
 obtain⟨W1,hW1⟩:∃W1,W1=(w.alloc (.deferred (some []))).alloc (.loop (rec .ready none)):=⟨_,rfl⟩
 have hb1:Below w.heap.size w W1:=by rw[hW1];exact((Below.refl _ w).alloc (zD _) _).alloc (by simp) _
 have hz1:W1.heap.size=w.heap.size+2:=by rw[hW1];simp
 have hat1:RecAt (w.heap.size+1) w.heap.size (rec .ready none) W1:=by
  have h2:=World.alloc_heap_new (w.alloc (.deferred (some []))) (.loop (rec .ready none))
  rw[World.size_alloc]at h2;rw[hW1];exact⟨h2,(Below.heap_alloc _ _ _ (by simp)).trans (World.alloc_heap_new w _)⟩
 have hnl:¬X (w.heap.size+1):=fun h=>by have:=hX _ h;omega
 have hnD:¬X w.heap.size:=fun h=>by have:=hX _ h;omega
 refine⟨w.heap.size+1,[{target:= .collected w.heap.size,args:=#[]}],W1,{target:= .fn (.func gf) lb,args:=#[.func (.yield (w.heap.size+1)) #[] #[]]},W1,gf,#[.func (.yield (w.heap.size+1)) #[] #[]]++lb,W1,?_,?_,?_,?_,(fun h=>by cases h),?_⟩
 ·rw[hW1,hrec];exact run_enterLoop_outer _ _ _ _ _
 ·simp only[resolve,hg];simp[go_sem]
 ·intro f' hf';simp[Target.leads]at hf';exact trivial
 ·simp[invoke,go_sem,eg]
 refine callsIn_wide.2 (callsIn_wide.1 ((hseq (w.heap.size+1) (fun pre W=>I pre W∧RecAt (w.heap.size+1) w.heap.size (rec .ready none) W) (fun pre W=>∃c,Ix c pre W∧RecAt (w.heap.size+1) w.heap.size (rec .done (some c)) W) W1 hb1 (by omega) (by omega) ?o1 ?o2 ?rd ⟨own_grows hI h0 hb1,hat1⟩).mono ?fin))
 case o1=>exact OwnFrom.and (own_mono hI (by omega)) (RecAt.own (by omega) (by omega))
 case o2=>
  intro s A A' row hs hg' hr;obtain⟨c,hc,hk⟩:=hs;exact⟨c,own_mono (hIx c) (B':=W1.heap.size) (by omega) s A A' row hc hg' hr,RecAt.own (β:=Unit) (B:=W1.heap.size) (by omega) (by omega) () A A' row hk hg' hr⟩
 case rd=>
  rintro pre x W ⟨hi,hat⟩ hp;exact round_acts (by omega) (by omega) hnl hnD hps hI hIx hAx has hbd hrec hi hat hp
 case fin=>
  rintro e W2 ⟨⟨v,rfl⟩,(⟨hi,hat⟩|⟨pre,hne,hpr,c,hi,hat⟩)⟩
  ·have he:=run_endLoop (P:=P) hat.1 (by rw[hrec];simp)
   exact⟨none,_,by rw[hrec]at he;exact he,hdone _ _ (zD _) (hI.putObj _ hi (by omega) hat.1 rfl) ((zM (by omega)).trans hat.2)⟩
  ·have he:=run_endLoop (P:=P) hat.1 (by rw[hrec];simp)
   exact⟨some c,_,by rw[hrec]at he;exact he,hstop _ c pre _ (zD _) hne hpr ((hIx c).putObj _ hi (by omega) hat.1 rfl) ((zM (by omega)).trans hat.2)⟩
end
def marks(Ds:List Nat):List Deferred:=Ds.map fun D=>{target:= .collected D,args:=#[]}
theorem leaves_marks{n:Nat}{P:Program}{fn:Func}{tmps:Array Value}{R:Ending→World→Prop}(hr:fn.results= #[]){B:Nat}{J:World→Prop}(hJ:OwnFrom B (fun(_:Unit) W=>J W))(hR:∀v W,J W→R (.returned v) W):
 ∀(Ds:List Nat)(W:World),J W→Ds.Nodup→(∀D∈Ds,B≤D∧W.heap[D]?=some (.deferred (some [])))→LeavesInM Fence.wide n P fn tmps R (marks Ds) .returning W
 | [],W,h,_,_=>⟨_,results_none hr _ _ _,hR _ _ h⟩
 |D::Ds,W,h,hn,hd=>by
  have h1:=hd D (by simp)
  rw[List.nodup_cons]at hn;refine⟨by simp,.inl ⟨_,_,rfl,run_takeDeferred h1.2,?_⟩⟩;refine leaves_marks hr hJ hR Ds _ (hJ.putObj (s:=()) _ h h1.1 h1.2 rfl) hn.2 (fun D' hD'=>?_);have h2:=hd D' (by simp[hD'])
  exact⟨h2.1,(zM (fun e=>hn.1 (by rw[←e];exact hD'))).trans h2.2⟩
end Go.Proofs.YthfgmpooehkhgaaGreatDoor.Sg
