import Derived.Test.YthfgmpooehkhgaaGreatDoorSmafiikk
import Derived.Test.YthfgmpooehkhgaaGreatDoorSmllfnpp
import Derived.Test.YthfgmpooehkhgaaGreatDoorSmhagomi
import Derived.Test.YthfgmpooehkhgaaGreatDoorSmnaljnn
namespace Go.Proofs.YthfgmpooehkhgaaGreatDoor
open Go.ChangeShapes Go.WideShapes Go.ChangeAt Go.RowKit Go.Shelf Go.Maps Sg Bl
open Nat renaming le_refl→zD,le_trans→zK
open Option renaming some→V,none→H
open Go.IntKind renaming i64→S
open Go.Ending renaming returned→G
attribute [local go_sem] Oper.semAt_some
def cutsH(h:Int→Int)(L:List Int):Int→Int:=L.foldl cutH h
theorem cuts_at:∀(L:List Int)(h:Int→Int)(x:Int),cutsH h L x=if x∈L then 0 else h x
 | [],h,x=>by simp[cutsH]
 |y::L,h,x=>by
  show cutsH (cutH h y) L x=_
  rw[cuts_at L];by_cases h1:x∈L
  ·rw[if_pos h1,if_pos (by simp[h1])]
  ·rw[if_neg h1];by_cases h2:x=y
   ·subst h2;rw[if_pos (by simp)];exact Bl.upd_same _ _ _
   ·rw[if_neg (by simp[h1,h2])];exact Bl.upd_other _ _ h2
theorem cuts_snoc(h:Int→Int)(L:List Int)(x:Int):cutsH h (L++ [x])=cutH (cutsH h L) x:=by unfold cutsH;rw[List.foldl_append];rfl
theorem cuts_all{t:Int}{h:Int→Int}(g:GoodT t h):cutsH h (idsL h)=fun _=>0:=by
 funext x
 rw[cuts_at]
 split
 ·rfl
 ·rename_i h1;cases e:decide (h x=0)with
  |true=>exact of_decide_eq_true e
  |false=>exact absurd ((mem_idsL g.at_ x).2 (of_decide_eq_false e)) h1
def FgI(B:Nat)(E:Nat→Prop)(w w1:World)(p bt b':Nat)(t:Int)(h:Int→Int)(m r:Int)(qv:Value)(pre:List Int)(W:World):Prop:=
 Bt B E W bt t (cutsH h pre) 999∧W.heap[p]?=V (.cells #[.int S m,.int S r,qv,.map (V b'),.pointer (V ⟨bt,0,H⟩)] 94 (0,0))∧Gd.Pu.Pa.Mx ptX Tryz.prog 3 W b' 999 (fun _=>H)∧Boxed W w.heap.size 25 (.pointer (V ⟨p,0,H⟩))∧Rg.Kept (fun i _=>E i) w1 W
theorem FgI.kept{B:Nat}{E:Nat→Prop}{w w1 W W':World}{p bt b':Nat}{t:Int}{h:Int→Int}{m r:Int}{qv:Value}{pre:List Int}{F:Nat→Obj→Prop}(hE:∀k,E k→k<w.heap.size)(hp:p<w.heap.size)(hs:w.heap.size<w1.heap.size)(hb:b'<w1.heap.size)(k:FgI B E w w1 p bt b' t h m r qv pre W)(hk:Rg.Kept F W W')(hF:∀k o,F k o→w1.heap.size≤k):FgI B E w w1 p bt b' t h m r qv pre W':=by
 obtain⟨k1,k2,k3,k4,k5⟩:=k
 have far:∀k o,k<w1.heap.size→¬F k o:=fun k o hl e=>by have:=hF k o e;omega
 exact⟨k1.kept hk (fun k o e=>far k o (by have:=hE k e;omega)),hk.block _ _ k2 (far p _ (by omega)),k3.kept hk (fun o=>far b' o hb),hk.block _ _ k4 (far _ _ hs),⟨hk.os.trans k5.os,hk.tape.trans k5.tape,hk.output.trans k5.output,zK k5.size hk.size,fun k o ho hx=>hk.block k o (k5.block k o ho hx) (far k o (Array.getElem?_eq_some_iff.1 ho).1)⟩⟩
theorem FgI.own{B:Nat}{E:Nat→Prop}{w w1:World}{p bt b':Nat}{t:Int}{h:Int→Int}{m r:Int}{qv:Value}(hE:∀k,E k→k<w.heap.size)(hp:p<w.heap.size)(hs:w.heap.size<w1.heap.size)(hb:b'<w1.heap.size):OwnFrom w1.heap.size (FgI B E w w1 p bt b' t h m r qv):=fun _ _ _ row hs' hg hr=>
 hs'.kept hE hp hs hb (F:=fun i _=>row=V i) (Rg.Kept.grown hg (fun _ _ e=>e)) (fun k _ e=>(hr k e).1)
set_option maxRecDepth 100000 in
set_option maxHeartbeats 1000000 in
theorem cforget_any{B:Nat}{E:Nat→Prop}{w:World}{p bt:Nat}{t:Int}{h:Int→Int}{m r:Int}{qv x3:Value}(hb:w.heap[p]?=V (.cells #[.int S m,.int S r,qv,x3,.pointer (V ⟨bt,0,H⟩)] 94 (0,0)))(kb:Bt B E w bt t h 999)(hp:¬E p):
 Calls Tryz.prog 52 #[.pointer (V ⟨p,0,H⟩)] w fun e w'=>(∃x,e=G x)∧∃b',(w.heap.size≤b'∧b'<w'.heap.size)∧w'.heap[p]?=V (.cells #[.int S m,.int S r,qv,.map (V b'),.pointer (V ⟨bt,0,H⟩)] 94 (0,0))∧Gd.Pu.Pa.Mx ptX Tryz.prog 3 w' b' 999 (fun _=>H)∧Bt B E w' bt t (fun _=>0) 999∧Rg.Kept (fun i _=>i=p∨E i) w w':=by
 refine(callsIn_wide (n:=5)).1 ?_
 have hpl:p<w.heap.size:=(Array.getElem?_eq_some_iff.1 hb).1
 have hEl:∀k,E k→k<w.heap.size:=fun k e=>(kb.1 k e).2
 obtain⟨W0,hW0⟩:∃W0,W0=w.setCell ⟨p,3,H⟩ (.map (V (w.heap.size+1))):=⟨_,rfl⟩
 obtain⟨W1,hW1⟩:∃W1,W1=W0.alloc (.cells #[.pointer (V ⟨p,0,H⟩)] 25):=⟨_,rfl⟩
 obtain⟨U,hU⟩:∃U,U=W1.alloc (.map #[] 0):=⟨_,rfl⟩
 have z0:W0.heap.size=w.heap.size:=by rw[hW0];simp
 have z1:W1.heap.size=w.heap.size+1:=by rw[hW1];simp[z0]
 have zU:U.heap.size=w.heap.size+2:=by rw[hU];simp[z1]
 have k0:Rg.Kept (fun i _=>i=p) w W0:=by rw[hW0];exact Rg.Kept.setCell (a:=⟨p,3,H⟩) _ (fun _=>rfl)
 have hb2:Below W0.heap.size W0 U:=by rw[hU,hW1];exact((Below.refl _ _).alloc (zD _) _).alloc (by simp) _
 have hp0:W0.heap[p]?=V (.cells #[.int S m,.int S r,qv,.map (V (w.heap.size+1)),.pointer (V ⟨bt,0,H⟩)] 94 (0,0)):=by
  rw[hW0,heap_setCell_same _ _ _ _ _ _ hb];rfl
 have hpU:=(hb2.block p (by omega)).trans hp0
 have hbxU:Boxed U w.heap.size 25 (.pointer (V ⟨p,0,H⟩)):=by
  show U.heap[w.heap.size]?=_
  rw[hU,hW1,←z0];exact(Below.heap_alloc _ _ _ (by simp)).trans (World.alloc_heap_new W0 _)
 have kU:Rg.Kept (fun i _=>i=p∨E i) w U:=(k0.mono (fun _ _ e=> .inl e)).trans (Rg.Kept.of_below hb2)
 have kbU:Bt B E U bt t h 999:=(kb.kept k0 (fun k _ e e2=>hp (e2▸e))).on hb2
 have mU:Gd.Pu.Pa.Mx ptX Tryz.prog 3 U (w.heap.size+1) 999 (fun _=>H):=by
  have h1:=(Gd.Pu.Pa.Mx.new ptX Tryz.prog 3 W1).mono (show 0≤999 by decide)
  rw[←hU,z1]at h1;exact h1
 have f3:w.frozen? ⟨p,3,H⟩=false:=frozen_of_row _ _ _ _ _ hb
 have c3:w.cell? ⟨p,3,H⟩=V x3:=by rw[cell_of hb];rfl
 have c4:w.cell? ⟨p,4,H⟩=V (.pointer (V ⟨bt,0,H⟩)):=by rw[cell_of hb];rfl
 have hne:w.heap.size≠p:=by omega
 have IDS:=(callsIn_wide (n:=4)).2 (bids_any kbU (by decide))
 have GT:=kb.2.2.1
 have HL:Hid ((idsL h).length ≤1000000):=by
  have:(idsL h).length ≤1000:=idsTo_len h 1000
  show(idsL h).length ≤1000000
  omega
 rw[hW1,hW0]at hU
 have HU:=hide hU
 rw[hU]at IDS
 have HF:=hide (And.intro kbU (And.intro hpU (And.intro mU hbxU)))
 have HK:=hide kU
 clear hb kb hb2 hp0 k0 hbxU hpU kU kbU mU hU z0 z1 hW0 hW1
 have hmm:=@run_makeMap Tryz.prog
 have hnf:∀(u:World)(b:Nat),(binOp BinOp.eql 141 (.func (.func 202) #[] #[.pointer (V ⟨b,0,H⟩)]) .nilFunc).run Tryz.prog u= .ok (.bool false) u:=fun _ _=>by kernel_rfl
 refine callsIn_of_wp_marks Tryz.func52 rfl trivial ?_ rfl
 simp only[Tryz.ntmps52,List.size_toArray,List.length_cons,List.length_nil,Nat.reduceAdd,Nat.reduceSub,Array.replicate_succ,Array.replicate_zero,List.push_toArray,List.append_toArray,List.nil_append,List.cons_append]
 gi_wp2_with fail
 refine⟨trivial,IDS.mono ?_⟩
 rintro e w1 ⟨Bi,v0,rfl,hb1,hit,hbi,hvr⟩
 rw[←HU.out]at hb1 hbi hvr
 clear IDS
 have hs1:=hb1.size
 obtain⟨kbU,hpU,mU,hbxU⟩:=HF.out
 have i0:FgI B E w w1 p bt (w.heap.size+1) t h m r qv [] w1:=⟨kbU.on hb1,(hb1.block _ (by omega)).trans hpU,mU.on hb1,(hb1.block _ (by omega)).trans hbxU,Rg.Kept.refl _ _⟩
 have hno:NoE (fun k _=>E k) Bi v0:=⟨fun cs f e=>by have:=hEl _ e;omega,fun k hk o e=>by have:=hvr k hk;have:=hEl _ e;omega⟩
 have ES:=bell_seq (E:=fun k _=>E k) HL.out hit hno (fun k o h1 e=>by have:=hEl _ e;omega)
 have HK1:Hid (Rg.Kept (fun i _=>i=p∨E i) w w1):=HK.out.trans (Rg.Kept.of_below hb1)
 have HI:=hide i0
 clear hb1 hit hno hbi hvr kbU hpU mU hbxU i0 HF HK f3 c3 c4
 gi_wp2_with fail
 refine Rg.range_acts (E:=fun k _=>E k) (enc:=encI) (L:=idsL h) (I:=FgI B E w w1 p bt (w.heap.size+1) t h m r qv) (Ix:=fun _ _ _=>False)
  (Ax:=fun x a' _=>a'= {tmps:=#[.pointer (V ⟨p,0,H⟩),.pointer (V ⟨w.heap.size,0,H⟩),.int S x,.pointer (V ⟨p,0,H⟩),.map (V (w.heap.size+1)),.pointer (V ⟨p,0,H⟩),.pointer (V ⟨p,3,H⟩),.pointer (V ⟨p,0,H⟩),.pointer (V ⟨p,0,H⟩),.pointer (V ⟨p,4,H⟩),.pointer (V ⟨bt,0,H⟩),.func (.func 202) #[] #[.pointer (V ⟨Bi,0,H⟩)],.int S x,undef,undef,undef,undef,undef,undef],defers:=[]})
  (gf:=202) (lb:=#[.pointer (V ⟨Bi,0,H⟩)]) rfl (enters_of Tryz.func202 (by kernel_rfl) rfl) ES (fun k o h1 h2 h3=>by have:=hEl _ h3;omega) rfl
  (FgI.own hEl hpl (by omega) (by omega)) (fun c' W0 W W' row hs hg hr=>hs.elim) (fun x a'=>?ax) HI.out ?assign ?body ?done ?stop
 case ax=>
  intro _ W W' row hs hg hr;exact hs
 case assign=>
  intro l pre x W K hI hK;have HK:=hK {tmps:=#[.pointer (V ⟨p,0,H⟩),.pointer (V ⟨w.heap.size,0,H⟩),.int S x,.pointer (V ⟨p,0,H⟩),.map (V (w.heap.size+1)),.pointer (V ⟨p,0,H⟩),.pointer (V ⟨p,3,H⟩),.pointer (V ⟨p,0,H⟩),.pointer (V ⟨p,0,H⟩),.pointer (V ⟨p,4,H⟩),.pointer (V ⟨bt,0,H⟩),.func (.func 202) #[] #[.pointer (V ⟨Bi,0,H⟩)],.int S x,undef,undef,undef,undef,undef,undef],defers:=[]} _ (Rg.Kept.refl _ _) hI rfl
  clear hK;unfold encI at HK ⊢
  gi_wp2
  exact HK
 case body=>
  rintro l pre x a' W hI rfl hpq;obtain⟨k1,k2,k3,k4,k5⟩:=hI;have hx:1≤x∧x≤999:=by
   obtain⟨q,hq⟩:=hpq;have:x∈idsL h:=by rw[←hq];simp
   exact GT.at_ x ((mem_idsL GT.at_ x).1 this)
  have CU:=(bcut_any k1 (wf_id hx.1 hx.2)).mono (R':=fun e w'=>(∃y,e=G y)∧Rg.Kept (fun k _=>E k) W w'∧FgI B E w w1 p bt (w.heap.size+1) t h m r qv (pre++ [x]) w') (fun e w' ⟨g1,g2,g3⟩=>by
   refine⟨⟨_,g1⟩,g3,?_,g3.block _ _ k2 hp,k3.kept g3 (fun _ e=>by have:=hEl _ e;omega),g3.block _ _ k4 (fun e=>by have:=hEl _ e;omega),k5.trans g3⟩;rw[cuts_snoc];exact bt_tight g2)
  have c1:=k4.cell
  have c4:W.cell? ⟨p,4,H⟩=V (.pointer (V ⟨bt,0,H⟩)):=by rw[cell_of k2];rfl
  clear k1 k2 k3 k4 k5 hpq hx
  gi_wp2_with fail
  refine⟨trivial,rfl,(CallsIn.inRound l (callsIn_wide.2 CU)).mono ?_⟩;rintro y w3 ⟨⟨z,rfl⟩,hz1,hz2⟩;clear CU
  gi_wp2
  exact⟨hz1,hz2⟩
 case done=>
  rintro D W hD hI hK;obtain⟨k1,k2,k3,k4,k5⟩:=hI.kept hEl hpl (by omega) (by omega) (F:=fun i _=>i=D) (Rg.Kept.putObj (W:=W) (.deferred H) (fun _=>rfl)) (fun k _ e=>by omega);have FIN:Hid (∃b',(w.heap.size≤b'∧b'<(W.putObj D (.deferred H)).heap.size)∧(W.putObj D (.deferred H)).heap[p]?=V (.cells #[.int S m,.int S r,qv,.map (V b'),.pointer (V ⟨bt,0,H⟩)] 94 (0,0))∧Gd.Pu.Pa.Mx ptX Tryz.prog 3 (W.putObj D (.deferred H)) b' 999 (fun _=>H)∧Bt B E (W.putObj D (.deferred H)) bt t (fun _=>0) 999∧Rg.Kept (fun i _=>i=p∨E i) w (W.putObj D (.deferred H))):=
   ⟨w.heap.size+1,⟨by omega,k3.lt⟩,k2,k3,by rw[cuts_all GT]at k1;exact k1,HK1.out.trans (k5.mono (fun _ _ e=> .inr e))⟩
  clear k1 k2 k3 k4 k5
  gi_wp2
  refine⟨by simp,.inl ⟨_,_,rfl,run_takeDeferred hK,?_⟩⟩;exact⟨_,results_none rfl _ _ _,⟨_,rfl⟩,FIN.out⟩
 case stop=>exact fun D c pre W _ _ _ h _=>h.elim
theorem bt_low{B B':Nat}{E:Nat→Prop}{w:World}{p:Nat}{t:Int}{h:Int→Int}{n:Nat}(k:Bt B E w p t h n)(hB:B'≤B):Bt B' E w p t h n:=⟨fun i e=>⟨zK hB (k.1 i e).1,(k.1 i e).2⟩,k.2⟩
def MadeC(w:World)(v:Ch)(e:Ending)(w':World):Prop:=
 ∃O p q r b bt loc,e=G (.pointer (V ⟨p,0,H⟩))∧Up w.heap.size O w' p v q r b bt loc∧Below w.heap.size w w'
theorem madec_of{w w1 w2 w3 w4:World}{orders room tries:Int}{x3:Value}{b':Nat}(h1:w1=w.alloc (.cells #[.int S (roomV room),.slice H 0 0,.int S 0,.bool false] 159))
 (hb2:Below w1.heap.size w1 w2) (hz2:w1.heap.size<w2.heap.size) (h3:w3=w2.alloc (.cells #[.int S (mostC orders),.int S (roomV room),.pointer (V ⟨w.heap.size,0,H⟩),x3,.pointer (V ⟨w1.heap.size,0,H⟩)] 94))
 (hb':w3.heap.size≤b'∧b'<w4.heap.size) (hp:w4.heap[w2.heap.size]?=V (.cells #[.int S (mostC orders),.int S (roomV room),.pointer (V ⟨w.heap.size,0,H⟩),.map (V b'),.pointer (V ⟨w1.heap.size,0,H⟩)] 94 (0,0)))
 (hm:Gd.Pu.Pa.Mx ptX Tryz.prog 3 w4 b' 999 (fun _=>H)) (hbt:Bt w1.heap.size (fun k=>k=w1.heap.size) w4 w1.heap.size (clampT tries) (fun _=>0) 999) (hk:Rg.Kept (fun i _=>i=w2.heap.size∨i=w1.heap.size) w3 w4):
 MadeC w (newCh orders room tries) (G (.pointer (V ⟨w2.heap.size,0,H⟩))) w4:=by
 have z1:w1.heap.size=w.heap.size+1:=by rw[h1];simp
 have z3:w3.heap.size=w2.heap.size+1:=by rw[h3];simp
 have hb1:Below w.heap.size w w1:=by rw[h1];exact(Below.refl _ _).alloc (zD _) _
 have hb3:Below w2.heap.size w2 w3:=by rw[h3];exact(Below.refl _ _).alloc (zD _) _
 have j0:Jr w.heap.size w1 w.heap.size (.slice H 0 0) (roomV room) [] 0 false:=by
  rw[h1];exact Jr.new w w.heap.size (zD _) (roomV room) (roomV_in room).1 (roomV_in room).2
 have j4:=(j0.on (bel_on' hb2 hb3)).kept hk (fun _ e=>by omega) (fun k _ e=>by simp[Value.ownBlock]at e)
 have s4:=hk.size
 refine⟨fun x k=>match x with
  | .inl 0=>k=w2.heap.size
  | .inl 1=>k=w.heap.size
  | .inl 2=>k=w1.heap.size
  | .inl 3=>k=b'
  | .inl _=>False
  | .inr _=>False,w2.heap.size,w.heap.size,.slice H 0 0,b',w1.heap.size,fun _=>H,rfl,⟨⟨fun x k e=>?_,fun x y k e1 e2=>?_,rfl,hp,j4,rfl,(fun k e=>by simp[Value.ownBlock]at e),bt_low hbt (by omega),hm,rfl,(fun id l e=>by cases e),fun _ _=>rfl⟩,newCh_good _ _ _,rfl⟩,?_⟩
 ·rcases x with(_|_|_|_|x)|x
  all_goals first|exact False.elim e|(have e:k=_:=e;omega)
 ·rcases x with(_|_|_|_|x)|x
  all_goals rcases y with(_|_|_|_|y)|y
  all_goals first|rfl|exact False.elim e1|exact False.elim e2|(have e1:k=_:=e1;have e2:k=_:=e2;omega)
 ·refine(bel_on' hb1 (bel_on' hb2 hb3)).trans (hk.bel ?_ (fun k _ e=>?_))
  ·omega
  ·omega
set_option maxHeartbeats 1000000 in
theorem cnew_any(orders room tries:Int)(w:World):
 Calls Tryz.prog 9 #[.int S orders,.int S room,.int S tries] w (MadeC w (newCh orders room tries)):=by
 have N:=new_any room w
 have FX:Hid (∀w1 w2,w1=w.alloc (.cells #[.int S (roomV room),.slice H 0 0,.int S 0,.bool false] 159)→Below w1.heap.size w1 w2→Bt w1.heap.size (fun k=>k=w1.heap.size) w2 w1.heap.size (clampT tries) (fun _=>0) 0→∀x3 w3,w3=w2.alloc (.cells #[.int S (mostC orders),.int S (roomV room),.pointer (V ⟨w.heap.size,0,H⟩),x3,.pointer (V ⟨w1.heap.size,0,H⟩)] 94)→Calls Tryz.prog 52 #[.pointer (V ⟨w2.heap.size,0,H⟩)] w3 fun e w'=>(∃x,e=G x)∧MadeC w (newCh orders room tries) (G (.pointer (V ⟨w2.heap.size,0,H⟩))) w'):=fun w1 w2 h1 h2 hbt x3 w3 h3=>by
  have hz:=(hbt.1 w1.heap.size rfl).2
  have hb3:Below w2.heap.size w2 w3:=by rw[h3];exact(Below.refl _ _).alloc (zD _) _
  have hp3:w3.heap[w2.heap.size]?=V (.cells #[.int S (mostC orders),.int S (roomV room),.pointer (V ⟨w.heap.size,0,H⟩),x3,.pointer (V ⟨w1.heap.size,0,H⟩)] 94 (0,0)):=by rw[h3];exact World.alloc_heap_new w2 _
  refine(cforget_any hp3 (bt_tight (hbt.on hb3)) (fun e=>by omega)).mono ?_;rintro e w4 ⟨g1,b',g2,g3,g4,g5,g6⟩;exact⟨g1,madec_of h1 h2 hz h3 g2 g3 g4 g5 g6⟩
 have BN:=fun W=>bnew_any tries W
 unfold mostC roomV at FX
 unfold roomV at N
 generalize newCh orders room tries=v0 at *
 generalize clampT tries=ct at *
 go_enter Tryz.func9,Tryz.ntmps9
 go_wp2_with(first
  |(go_at_call 50;refine N.mono ?_;clear N;rintro e w1 ⟨rfl,h1⟩;have HW1:=hide h1;clear h1)
  |(go_at_call 51;refine(BN _).mono ?_;clear BN;rintro e w2 ⟨pb,rfl,rfl,hbt,hb2⟩;have FY:=FX.out _ w2 HW1.out hb2 hbt;clear hbt hb2 FX)
  |(go_at_call 52;refine(FY _ _ rfl).mono ?_;clear FY;rintro e w4 ⟨⟨y,rfl⟩,hm⟩;have HX:=hide hm;clear hm))
 go_ret
 exact HX.out
end Go.Proofs.YthfgmpooehkhgaaGreatDoor
namespace Go.Proofs.YthfgmpooehkhgaaGreatDoor
open Go.ChangeShapes Go.WideShapes Go.ChangeAt Go.RowKit Go.Maps Sg Bl
open Nat renaming le_refl→zD,lt_of_lt_of_le→zJ,le_trans→zK
open Rg.Kept renaming of_below→zE
open Go.World renaming alloc_heap_new→zI
open Option renaming some→V,none→H
open Go.IntKind renaming i64→S
open Go.Ending renaming returned→G
theorem jr_low{B B':Nat}{w:World}{p:Nat}{v:Value}{room:Int}{L:List ByteArray}{sure:Nat}{down:Bool}(h:Jr B w p v room L sure down)(hB:B'≤B):Jr B' w p v room L sure down:=⟨h.1,zK hB h.2.1,own_low h.2.2.1 hB,h.2.2.2⟩
def Cu(w0:World)(O:Pt→Nat→Prop)(w:World)(p:Nat)(v:Ch):Prop:=(∃q r b bt loc,Up w0.heap.size O w p v q r b bt loc)∧Below w0.heap.size w0 w
def AnC(w:World)(O:Pt→Nat→Prop)(a:Option Addr)(c:Nat)(xs:List Mg):Prop:=(∃B0,w.ownsRow B0 34 7 (.slice a xs.length c) xs.length (mgCells xs))∧∀ad,a=V ad→¬Eo O ad.block
def Abc(w:World)(O:Pt→Nat→Prop)(k:Nat)(o:Obj):Prop:=w.heap[k]?=V o∧¬Eo O k
def Go_(O:Pt→Nat→Prop)(w:World)(O':Pt→Nat→Prop)(w':World):Prop:=(∀i,Eo O' i→growE (Eo O) w w' i)∧Rg.Kept (fun i _=>Eo O i) w w'
section
variable {w0 w w':World}{O O':Pt→Nat→Prop}{p:Nat}{v v':Ch}
theorem Go_.of_below(hb:Below w.heap.size w w'):Go_ O w O w':=⟨fun _ e=> .inl e,zE hb⟩
theorem Cu.on(k:Cu w0 O w p v)(hb:Below w.heap.size w w'):Cu w0 O w' p v:=by
 obtain⟨⟨q,r,b,bt,loc,h⟩,h2⟩:=k
 exact⟨⟨q,r,b,bt,loc,h.on hb⟩,bel_on' h2 hb⟩
theorem Cu.good(k:Cu w0 O w p v):GoodCh v:=by
 obtain⟨⟨q,r,b,bt,loc,h⟩,_⟩:=k
 exact h.g
theorem Cu.lt(k:Cu w0 O w p v){i:Nat}(e:Eo O i):w0.heap.size≤i∧i<w.heap.size:=by
 obtain⟨⟨q,r,b,bt,loc,h⟩,_⟩:=k
 obtain⟨y,e⟩:=e
 exact h.k.bd y i e
theorem Cu.gl(hg:Gl w0)(k:Cu w0 O w p v):∀u,Rg.Kept (fun i _=>Eo O i) w u→Gl u:=fun _ h=>hg.on (k.2.trans (h.bel (by obtain⟨⟨q,r,b,bt,loc,h1⟩,_⟩:=k;exact h1.k.low) (fun i _ e=>(k.lt e).1)))
theorem Abc.step{k:Nat}{o:Obj}(h:Abc w O k o)(g:Go_ O w O' w'):Abc w' O' k o:=
 ⟨g.2.block _ _ h.1 h.2,fun e=>(g.1 k e).elim h.2 (fun e=>by have:=(Array.getElem?_eq_some_iff.1 h.1).1;omega)⟩
theorem AnC.step{a:Option Addr}{c:Nat}{xs:List Mg}(h:AnC w O a c xs)(g:Go_ O w O' w'):AnC w' O' a c xs:=by
 obtain⟨⟨B0,h1⟩,h2⟩:=h
 refine⟨⟨B0,own_keptR h1 g.2 (fun k _ e=>by obtain⟨x,e3,rfl⟩:=own_some e;exact h2 x e3)⟩,fun ad e e2=>?_⟩
 rcases g.1 _ e2 with e3|e3
 ·exact h2 ad e e3
 ·have:=(h1.lt ad.block (by rw[e];rfl)).2
  omega
theorem AnC.on{a:Option Addr}{c:Nat}{xs:List Mg}(h:AnC w O a c xs)(hb:Below w.heap.size w w'):AnC w' O a c xs:=h.step (Go_.of_below hb)
theorem AnC.mgs{a:Option Addr}{c:Nat}{xs:List Mg}(h:AnC w O a c xs):Mgs w a xs:=by
 obtain⟨⟨B0,h1⟩,_⟩:=h
 exact row_mgs h1
theorem SendR.cu{q b bt:Nat}{loc:Int→Option Nat}(k:Cu w0 O w p v){v2:Ch}{xs:List Mg}{e:Ending}(h:SendR w0.heap.size O w p v2 q b bt loc xs e w'):∃a c O',e=G (.slice a xs.length c)∧AnC w' O' a c xs∧Cu w0 O' w' p v2∧Go_ O w O' w':=by
 obtain⟨ra,rc,O1,r1,loc1,h1,h2,h3,h4,h5,h6,h7⟩:=h
 exact⟨ra,rc,O1,h1,⟨⟨_,h2⟩,h3⟩,⟨⟨q,r1,b,bt,loc1,h4⟩,k.2.trans (h6.bel (by obtain⟨⟨q,r,b,bt,loc,h1⟩,_⟩:=k;exact h1.k.low) (fun i _ e=>(k.lt e).1))⟩,h5,h6⟩
theorem UStp.cu{q b bt:Nat}{loc:Int→Option Nat}(k:Cu w0 O w p v){v2:Ch}(h:UStp w0.heap.size O w p v2 q b bt loc w'):∃O',Cu w0 O' w' p v2∧Go_ O w O' w':=by
 obtain⟨O1,r1,loc1,h4,h5,h6,h7⟩:=h
 exact⟨O1,⟨⟨q,r1,b,bt,loc1,h4⟩,k.2.trans (h6.bel (by obtain⟨⟨q,r,b,bt,loc,h1⟩,_⟩:=k;exact h1.k.low) (fun i _ e=>(k.lt e).1))⟩,h5,h6⟩
theorem Cu.new(hb:Below w0.heap.size w0 w)(orders room tries:Int):
 Calls Tryz.prog 9 #[.int S orders,.int S room,.int S tries] w fun e w'=>∃p O,e=G (.pointer (V ⟨p,0,H⟩))∧Cu w0 O w' p (newCh orders room tries)∧Below w.heap.size w w'∧∀i,Eo O i→w.heap.size≤i:=by
 refine(cnew_any orders room tries w).mono ?_
 rintro e w' ⟨O,p,q,r,b,bt,loc,h1,h2,h3⟩
 have hB:=hb.size
 have k2:CkV w0.heap.size O w' p (newCh orders room tries) q r b bt loc ((newCh orders room tries).T.map lnC):=
  ⟨fun x i e=>⟨zK hB (h2.k.bd x i e).1,(h2.k.bd x i e).2⟩,h2.k.dj,h2.k.op,h2.k.blk,jr_low h2.k.jr hB,h2.k.oq,h2.k.or,bt_low h2.k.bl hB,h2.k.mp,h2.k.ob,(fun id l e=>by cases e),h2.k.no⟩
 exact⟨p,O,h1,⟨⟨q,r,b,bt,loc,k2,h2.g,h2.d⟩,bel_on' hb h3⟩,h3,fun i ⟨y,e⟩=>(h2.k.bd y i e).1⟩
theorem Cu.begin(hg:Gl w0)(k:Cu w0 O w p v)(o:Od){sa:Option Addr}{sc:Nat}(hs:Sts w sa o.steps)(hsl:o.steps.length≤9223372036854775807)(hw:(Lit.int S o.id).wf =true){n:Int}(hn:begE v o=n)(hv:begS v o=v'){xs:List Mg}(hx:begA v o=xs):
 Calls Tryz.prog 11 #[.pointer (V ⟨p,0,H⟩),.agg #[.int S o.id,.int S o.item,.int S o.qty,.int S o.client,.int S o.price,.slice sa o.steps.length sc]] w fun e w'=>∃a c O',e=G (.tuple #[.slice a xs.length c,.int S n])∧AnC w' O' a c xs∧Cu w0 O' w' p v'∧Go_ O w O' w':=by
 subst hn hv hx
 obtain⟨⟨q,r,b,bt,loc,h⟩,_⟩:=id k
 refine(cbeg_any h (k.gl hg) o hs hsl hw).mono ?_
 rintro e w' ⟨x,h1,h2⟩
 obtain⟨a,c,O',h3,h4,h5,h6⟩:=h2.cu k
 cases h3
 exact⟨a,c,O',h1,h4,h5,h6⟩
theorem Cu.cancel(hg:Gl w0)(k:Cu w0 O w p v){id:Int}(hw:(Lit.int S id).wf =true){n:Int}(hn:canE v id=n)(hv:canS v id=v'){xs:List Mg}(hx:canA v id=xs):
 Calls Tryz.prog 13 #[.pointer (V ⟨p,0,H⟩),.int S id] w fun e w'=>∃a c O',e=G (.tuple #[.slice a xs.length c,.int S n])∧AnC w' O' a c xs∧Cu w0 O' w' p v'∧Go_ O w O' w':=by
 subst hn hv hx
 obtain⟨⟨q,r,b,bt,loc,h⟩,_⟩:=_root_.id k
 refine(ccan_any h (k.gl hg) hw).mono ?_
 rintro e w' ⟨x,h1,h2⟩
 obtain⟨a,c,O',h3,h4,h5,h6⟩:=h2.cu k
 cases h3
 exact⟨a,c,O',h1,h4,h5,h6⟩
theorem Cu.accept(hg:Gl w0)(k:Cu w0 O w p v){id:Int}(hw:(Lit.int S id).wf =true){n:Int}(hn:accE v id=n)(hv:accS v id=v'):
 Calls Tryz.prog 15 #[.pointer (V ⟨p,0,H⟩),.int S id] w fun e w'=>∃O',e=G (.int S n)∧Cu w0 O' w' p v'∧Go_ O w O' w':=by
 subst hn hv
 obtain⟨⟨q,r,b,bt,loc,h⟩,_⟩:=_root_.id k
 refine(cacc_any h (k.gl hg) hw).mono ?_
 rintro e w' ⟨h1,h2⟩
 obtain⟨O',h3,h4⟩:=h2.cu k
 exact⟨O',h1,h3,h4⟩
theorem Cu.ring(hg:Gl w0)(k:Cu w0 O w p v){id:Int}(hw:(Lit.int S id).wf =true)(hv:rngS v id=v'){xs:List Mg}(hx:rngA v id=xs):
 Calls Tryz.prog 17 #[.pointer (V ⟨p,0,H⟩),.int S id] w fun e w'=>∃a c O',e=G (.slice a xs.length c)∧AnC w' O' a c xs∧Cu w0 O' w' p v'∧Go_ O w O' w':=by
 subst hv hx
 obtain⟨⟨q,r,b,bt,loc,h⟩,_⟩:=_root_.id k
 exact(crng_any h (k.gl hg) hw).mono (fun _ _ h2=>h2.cu k)
theorem Cu.handle(hg:Gl w0)(k:Cu w0 O w p v)(m:Mg)(hw:(Lit.int S m.id).wf =true)(hv:(hdSA v m).1 =v'){xs:List Mg}(hx:(hdSA v m).2 =xs):
 Calls Tryz.prog 24 #[.pointer (V ⟨p,0,H⟩),.agg #[.int S m.k,.int S m.fr,.int S m.to,.int S m.id,.int S m.st,.int S m.a,.int S m.b]] w fun e w'=>∃a c O',e=G (.slice a xs.length c)∧AnC w' O' a c xs∧Cu w0 O' w' p v'∧Go_ O w O' w':=by
 subst hv hx
 obtain⟨⟨q,r,b,bt,loc,h⟩,_⟩:=_root_.id k
 exact(chandle_any h (k.gl hg) m hw).mono (fun _ _ h2=>h2.cu k)
end
theorem results_cct{P:Program}{fn:Func}{p q r:Tmp}{ty ty2:TypeId}(h:fn.results= #[.cell p ty,.cell q ty2,.tmp r])(tmps:Array Value)(w:World)(g g2:Nat)(t t2:TypeId)(cs cs2:Array Value)(fr fr2:Nat×Nat)(d d2:TypeDesc)
 (hp:tmps.getD p undef= .pointer (V ⟨g,0,H⟩)) (hg:w.heap[g]?=V (.cells cs t fr)) (hu:P.underlying ty=V d) (hd:(match d with| .struct _| .array _ _=>true|_=>false)=true) (hi:(P.info? ty).map (·.size)=V cs.size)
 (hp2:tmps.getD q undef= .pointer (V ⟨g2,0,H⟩)) (hg2:w.heap[g2]?=V (.cells cs2 t2 fr2)) (hu2:P.underlying ty2=V d2) (hd2:(match d2 with| .struct _| .array _ _=>true|_=>false)=true) (hi2:(P.info? ty2).map (·.size)=V cs2.size):
 (results fn tmps).run P w= .ok (.tuple #[.agg cs,.agg cs2,tmps.getD r undef]) w:=by
 have hp':tmps[p]?.getD undef= .pointer (V ⟨g,0,H⟩):=by simpa using hp
 have hq':tmps[q]?.getD undef= .pointer (V ⟨g2,0,H⟩):=by simpa using hp2
 simp[results,h,hp',hq',asAddr,run_loadVar_row w g t ty cs fr d hg hu hd hi,run_loadVar_row w g2 t2 ty2 cs2 fr2 d2 hg2 hu2 hd2 hi2]
def zO:Array Value:=#[.int S 0,.int S 0,.int S 0,.int S 0,.int S 0,.slice H 0 0]
def zF:Array Value:=#[.slice H 0 0,.slice H 0 0,.bool false,.bool false,.bool false,.bool false,.bool false,.bool false,.bool false,.bool false,.bool false]
section
variable {B:Nat}{O:Pt→Nat→Prop}{w:World}{p:Nat}{v:Ch}{q:Nat}{r:Value}{b bt:Nat}{loc:Int→Option Nat}{Lq:List ByteArray}
theorem CkV.facts_no(k:CkV B O w p v q r b bt loc Lq){id:Int}(hw:(Lit.int S id).wf =true)(hl:v.L id=H):
 Calls Tryz.prog 33 #[.pointer (V ⟨p,0,H⟩),.int S id] w fun e w'=>e=G (.tuple #[.agg zO,.agg zF,.bool false])∧Below w.heap.size w w':=by
 have h1:=zI (w.alloc (.cells zO 32)) (.cells zF 68)
 have h0:((w.alloc (.cells zO 32)).alloc (.cells zF 68)).heap[w.heap.size]?=V (.cells zO 32 (0,0)):=(Below.heap_alloc _ _ _ (by simp)).trans (zI w _)
 rw[World.size_alloc]at h1
 have hB:Below w.heap.size w ((w.alloc (.cells zO 32)).alloc (.cells zF 68)):=((Below.refl _ _).alloc (zD _) _).alloc (by simp) _
 have kW:=k.on hB
 have hL:=kW.look hw
 obtain⟨-,-,-,c3,-⟩:=kW.cell3
 rw[k.no id hl,show ptV H=Value.pointer H from rfl]at hL
 have HB:=hide hB
 have H0:=hide h0
 have H1:=hide h1
 clear h0 h1 kW k hl hB
 unfold zO zF at hL c3
 go_enter Tryz.func33,Tryz.ntmps33
 go_wp2
 refine bodyPost_ret (results_cct Tryz.results33 _ _ _ _ _ _ _ _ _ _ _ _ rfl H0.out Tryz.underlying32 rfl (by kernel_rfl) rfl H1.out Tryz.underlying68 rfl (by kernel_rfl)) rfl ?_
 exact⟨rfl,HB.out⟩
end
def Cx(w0:World)(O:Pt→Nat→Prop)(w:World)(p:Nat)(v:Ch):Prop:=(∃q r b bt loc Lq,CkV w0.heap.size O w p v q r b bt loc Lq)∧GoodCh v∧Below w0.heap.size w0 w
def FactR(l:Lk)(is:Bool)(w:World)(e:Ending)(w':World):Prop:=∃sa sc da dc ua uc,e=G (.tuple #[.agg #[.int S l.o.id,.int S l.o.item,.int S l.o.qty,.int S l.o.client,.int S l.o.price,.slice sa l.o.steps.length sc],.agg #[.slice da l.f.dn.length dc,.slice ua l.f.un.length uc,.bool l.f.asked,.bool l.f.yes,.bool l.f.turned,.bool l.f.k0,.bool l.f.k1,.bool l.f.ship,.bool l.f.d0,.bool l.f.d1,.bool l.f.acc],.bool is])∧Sts w' sa l.o.steps∧FaIn w' l.f da dc ua uc∧Below w.heap.size w w'
section
variable {w0 w w':World}{O:Pt→Nat→Prop}{p:Nat}{v:Ch}
theorem Cu.cx(k:Cu w0 O w p v):Cx w0 O w p v:=by
 obtain⟨⟨q,r,b,bt,loc,h⟩,h2⟩:=k
 exact⟨⟨q,r,b,bt,loc,_,h.k⟩,h.g,h2⟩
theorem Cx.on(k:Cx w0 O w p v)(hb:Below w.heap.size w w'):Cx w0 O w' p v:=by
 obtain⟨⟨q,r,b,bt,loc,Lq,h1⟩,h3,h5⟩:=k
 exact⟨⟨q,r,b,bt,loc,Lq,h1.on hb⟩,h3,bel_on' h5 hb⟩
theorem Cx.state(k:Cx w0 O w p v){id:Int}(hw:(Lit.int S id).wf =true):
 Calls Tryz.prog 49 #[.pointer (V ⟨p,0,H⟩),.int S id] w fun e w'=>e=G (.int S (stC v id))∧Below w.heap.size w w':=by
 obtain⟨⟨q,r,b,bt,loc,Lq,h1⟩,h3,h5⟩:=k
 exact h1.state hw
theorem Cx.facts(k:Cx w0 O w p v){id:Int}(hw:(Lit.int S id).wf =true):
 Calls Tryz.prog 33 #[.pointer (V ⟨p,0,H⟩),.int S id] w (FactR (lkD v id) (v.L id).isSome w):=by
 obtain⟨⟨q,r,b,bt,loc,Lq,h1⟩,h3,h5⟩:=k
 unfold lkD
 cases hl:v.L id with
 |none=>
  refine(h1.facts_no hw hl).mono ?_;rintro e w' ⟨e1,e2⟩;exact⟨H,0,H,0,H,0,e1,.inl rfl,⟨.inl rfl,.inl rfl,zD _,zD _,(by decide),(by decide)⟩,e2⟩
 |some l=>
  refine(h1.facts hw hl (h3.gm _ _ hl)).mono ?_;rintro e w' ⟨⟨sa,sc,da,dc,ua,uc,e1,e2,e3⟩,e4⟩;exact⟨sa,sc,da,dc,ua,uc,e1,e2,e3,e4⟩
theorem Cx.three(k:Cx w0 O w p v)(id:Int):(lkD v id).o.steps.length ≤3∧(lkD v id).f.dn.length ≤3∧(lkD v id).f.un.length ≤3:=by
 unfold lkD
 cases hl:v.L id with
 |none=>exact⟨by decide,by decide,by decide⟩
 |some l=>
  have h:=k.2.1.gm _ _ hl
  have e1:=h.dl
  have e2:=h.ul
  have e3:=h.st
  refine⟨h.st,?_,?_⟩
  ·show l.f.dn.length≤3;omega
  ·show l.f.un.length≤3;omega
end
def unElem(v:Value):Option (DataW Unit×List MemPlace):=
 match v with
 | .agg cs=>if cs.size=0 then V (.agg [],[])else H
 |_=>H
theorem unElem_inv{v:Value}{y:DataW Unit×List MemPlace}(h:unElem v=V y):∃c:Unit,v=(fun _:Unit=>Value.agg #[]) c∧y=((fun _:Unit=>DataW.agg []) c,[]):=by
 cases v<;>simp only[unElem,reduceCtorEq]at h
 rename_i cs
 split at h
 ·rename_i e;refine⟨(),?_,by simpa using h.symm⟩;rw[Array.eq_empty_of_size_eq_zero e]
 ·cases h
def unX:Gd.Pu.Pa.ElemOf Unit:=⟨fun _=> .agg #[],fun _=> .agg [],unElem,fun _=>rfl,fun _ _ h=>unElem_inv h,fun _ _ _=>rfl,fun _ _ _=>rfl⟩
def inR(R:Int→Bool):Int→Option Unit:=fun x=>if R x=true then V ()else H
theorem inR_some(R:Int→Bool)(x:Int):(inR R x).isSome =R x:=by unfold inR;cases R x<;>rfl
theorem inR_up(R:Int→Bool)(i:Int):Gd.updO (inR R) i (V ())=inR (upR R i true):=by
 funext x
 by_cases h:x=i
 ·subst h;rw[Gd.updO_same];unfold inR;rw[upR_same,if_pos rfl]
 ·rw[Gd.updO_other _ _ h];unfold inR;rw[upR_other _ _ h]
theorem inR_dn(R:Int→Bool)(i:Int):Gd.updO (inR R) i H=inR (upR R i false):=by
 funext x
 by_cases h:x=i
 ·subst h;rw[Gd.updO_same];unfold inR;rw[upR_same,if_neg (by decide)]
 ·rw[Gd.updO_other _ _ h];unfold inR;rw[upR_other _ _ h]
theorem zeroU(w:World):(zeroValue 153).run Tryz.prog w= .ok (unX.val ()) w:=by kernel_rfl
structure DkS (w0:World) (O:Pt→Nat→Prop) (w:World) (d p m n:Nat) (R:Int→Bool):Prop where
 blk:w.heap[d]?=V (.cells #[.pointer (V ⟨p,0,H⟩),.map (V m)] 151 (0,0))
 mp:Gd.Pu.Pa.Mx unX Tryz.prog 3 w m n (inR R)
 nd:¬Eo O d
 nm:¬Eo O m
 ld:w0.heap.size≤d
 lm:w0.heap.size≤m
 id:IdR R
def Dk(w0:World)(O:Pt→Nat→Prop)(w:World)(d p m n:Nat)(v:Ch)(R:Int→Bool):Prop:=Cx w0 O w p v∧DkS w0 O w d p m n R
section
variable {w0 w w':World}{O O':Pt→Nat→Prop}{d p m n:Nat}{v v':Ch}{R:Int→Bool}
theorem DkS.ne(k:DkS w0 O w d p m n R):m≠d:=k.mp.ne k.blk
theorem DkS.lt(k:DkS w0 O w d p m n R):d<w.heap.size∧m<w.heap.size:=⟨(Array.getElem?_eq_some_iff.1 k.blk).1,k.mp.lt⟩
theorem DkS.on(k:DkS w0 O w d p m n R)(hb:Below w.heap.size w w'):DkS w0 O w' d p m n R:=⟨Sg.keepB k.blk hb,k.mp.on hb,k.nd,k.nm,k.ld,k.lm,k.id⟩
theorem DkS.step(k:DkS w0 O w d p m n R)(g:Go_ O w O' w'):DkS w0 O' w' d p m n R:=by
 have h1:=k.lt
 refine⟨g.2.block _ _ k.blk k.nd,k.mp.kept g.2 (fun _=>k.nm),fun e=>?_,fun e=>?_,k.ld,k.lm,k.id⟩
 ·exact(g.1 _ e).elim k.nd (fun e=>by omega)
 ·exact(g.1 _ e).elim k.nm (fun e=>by omega)
theorem Dk.on(k:Dk w0 O w d p m n v R)(hb:Below w.heap.size w w'):Dk w0 O w' d p m n v R:=⟨k.1.on hb,k.2.on hb⟩
theorem DkS.c0(k:DkS w0 O w d p m n R):w.cell? ⟨d,0,H⟩=V (.pointer (V ⟨p,0,H⟩))∧w.cell? ⟨d,1,H⟩=V (.map (V m)):=by
 constructor<;>(rw[cell_of k.blk];rfl)
theorem DkS.look(k:DkS w0 O w d p m n R){id:Int}(hw:(Lit.int S id).wf =true):(Instr.lookup 149 (.map (V m)) (.int S id) true).run Tryz.prog w= .ok (.tuple #[.agg #[],.bool (R id)]) w:=by
 have h:=k.mp.look_ok Tryz.underlying3 Tryz.underlying149 (zeroU w) hw
 rw[inR_some]at h
 exact h
theorem dchief_any(k:DkS w0 O w d p m n R):Calls Tryz.prog 38 #[.pointer (V ⟨d,0,H⟩)] w fun e w'=>e=G (.pointer (V ⟨p,0,H⟩))∧w=w':=by
 obtain⟨c0,-⟩:=k.c0
 clear k
 go_enter Tryz.func38,Tryz.ntmps38
 go_wp2
 go_ret
 exact⟨rfl,rfl⟩
theorem drej_any(k:DkS w0 O w d p m n R){id:Int}(hw:(Lit.int S id).wf =true):Calls Tryz.prog 123 #[.pointer (V ⟨d,0,H⟩),.int S id] w fun e w'=>e=G (.bool (R id))∧Below w.heap.size w w':=by
 obtain⟨-,c1⟩:=k.c0
 have hL:=k.look hw
 have HB:Hid (Below w.heap.size w (w.alloc (.cells #[] 153))):=(Below.refl _ _).alloc (zD _) _
 clear k hw
 go_enter Tryz.func123,Tryz.ntmps123
 go_wp2
 go_ret
 exact⟨rfl,HB.out⟩
theorem dstatus_any(k:Dk w0 O w d p m n v R){id:Int}(hw:(Lit.int S id).wf =true):Calls Tryz.prog 41 #[.pointer (V ⟨d,0,H⟩),.int S id] w fun e w'=>e=G (.int S (stD v R id))∧Below w.heap.size w w':=by
 have C0:=dchief_any k.2
 have S0:=k.1.state hw
 have J0:Hid (∀u,Below w.heap.size w u→Calls Tryz.prog 123 #[.pointer (V ⟨d,0,H⟩),.int S id] u fun e w'=>e=G (.bool (R id))∧Below w.heap.size w w'):=fun u hu=>(drej_any (k.2.on hu) hw).mono (fun _ _ ⟨e1,e2⟩=>⟨e1,bel_on' hu e2⟩)
 unfold stD
 generalize stC v id=s at *
 clear k hw
 by_cases h0:s=0
 ·subst h0;cases hr:R id;all_goals rw[hr]at J0
  all_goals simp only[true_and,Bool.false_eq_true,and_false,if_false,if_true]
  all_goals go_enter Tryz.func41,Tryz.ntmps41
  all_goals go_wp2_with(first
   |(go_at_call 38;refine C0.mono ?_;rintro e w1 ⟨rfl,rfl⟩)
   |(go_at_call 49;refine S0.mono ?_;rintro e w2 ⟨rfl,hb⟩;have J2:=J0.out _ hb;clear J0 hb)
   |(go_at_call 123;refine J2.mono ?_;clear J2;rintro e w3 ⟨rfl,hb⟩;have HB:=hide hb;clear hb))
  all_goals go_ret
  all_goals exact⟨rfl,HB.out⟩
 ·rw[if_neg (fun e=>h0 e.1)];have hb0:(s==0)=false:=by simpa using h0
  clear J0;go_enter Tryz.func41,Tryz.ntmps41
  go_wp2_with(first
   |(go_at_call 38;refine C0.mono ?_;rintro e w1 ⟨rfl,rfl⟩)
   |(go_at_call 49;refine S0.mono ?_;rintro e w2 ⟨rfl,hb⟩;have HB:=hide hb;clear hb))
  go_ret
  exact⟨rfl,HB.out⟩
end
section
variable {α:Type}{X:Gd.Pu.Pa.ElemOf α}{P:Program}{k t e:TypeId}{w w':World}{b n:Nat}{r:Int→Option α}
theorem mx_del(h:Gd.Pu.Pa.Mx X P k w b n r)(hk:P.underlying k=V (.int S))(ht:P.underlying t=V (.map k e)){id:Int}(hw:(Lit.int S id).wf =true):
 ∃w1,(∀ty,(Builtin.delete_ #[t,k] ty #[.map (V b),.int S id]).run P w= .ok (.tuple #[]) w1)∧Gd.Pu.Pa.Mx X P k w1 b n (Gd.updO r id H)∧Rg.Kept (fun i _=>i=b) w w1:=by
 obtain⟨D,hD,f⟩:=h
 obtain⟨w1,hrun,o1,t1⟩:=hD.drop (int_keyed hk) ht (keyOf_int_mk hk hw) 0
 exact⟨w1,fun ty=>hrun,⟨_,o1,f.del id⟩,Rg.Kept.grown t1.grown (fun i _ e=>(by cases e;rfl))⟩
end
def GoD(O:Pt→Nat→Prop)(m:Nat)(w:World)(O':Pt→Nat→Prop)(w':World):Prop:=(∀i,Eo O' i→growE (Eo O) w w' i)∧Rg.Kept (fun i _=>Eo O i∨i=m) w w'
section
variable {w0 w w1 w2 w':World}{O O':Pt→Nat→Prop}{d p m n:Nat}{v v':Ch}{R R':Int→Bool}
theorem Cu.other{F:Nat→Obj→Prop}(k:Cu w0 O w p v)(hk:Rg.Kept F w w')(hF:∀i o,Eo O i→¬F i o)(hl:∀i o,F i o→w0.heap.size≤i):Cu w0 O w' p v:=by
 obtain⟨⟨q,r,b,bt,loc,h⟩,h2⟩:=k
 exact⟨⟨q,r,b,bt,loc,h.k.kept hk (fun x k o e=>hF k o ⟨x,e⟩),h.g,h.d⟩,h2.trans (hk.bel h2.size (fun i o e=>hl i o e))⟩
theorem DkS.turn(k:DkS w0 O w d p m n R){n':Nat}(hk:Rg.Kept (fun i _=>i=m) w w')(hm:Gd.Pu.Pa.Mx unX Tryz.prog 3 w' m n' (inR R'))(hi:IdR R'):DkS w0 O w' d p m n' R':=
 ⟨hk.block _ _ k.blk (fun e=>k.ne e.symm),hm,k.nd,k.nm,k.ld,k.lm,hi⟩
theorem AnC.turn{a:Option Addr}{c:Nat}{xs:List Mg}(h:AnC w O a c xs)(k:DkS w0 O w d p m n R)(hk:Rg.Kept (fun i _=>i=m) w w'):AnC w' O a c xs:=by
 obtain⟨⟨B0,h1⟩,h2⟩:=h
 refine⟨⟨B0,row_stays h1 (fun j cs _ hc=>(hk.block _ _ hc (fun e=>?_)).trans hc.symm)⟩,h2⟩
 subst e
 exact k.mp.ne hc rfl
theorem GoD.turn(g:Go_ O w O' w1)(hk:Rg.Kept (fun i _=>i=m) w1 w'):GoD O m w O' w':=
 ⟨fun i e=>(g.1 i e).elim .inl (fun e=> .inr ⟨e.1,zJ e.2 hk.size⟩),⟨hk.os.trans g.2.os,hk.tape.trans g.2.tape,hk.output.trans g.2.output,zK g.2.size hk.size,fun _ _ h hn=>hk.block _ _ (g.2.block _ _ h (fun e=>hn (.inl e))) (fun e=>hn (.inr e))⟩⟩
set_option maxHeartbeats 1000000 in
theorem dnew_any(hb:Below w0.heap.size w0 w)(x y z:Int):
 Calls Tryz.prog 36 #[.int S x,.int S y,.int S z] w fun e w'=>∃d p m O,e=G (.pointer (V ⟨d,0,H⟩))∧Cu w0 O w' p (newCh x y z)∧DkS w0 O w' d p m 0 (fun _=>false)∧Below w.heap.size w w'∧(∀i,Eo O i→w.heap.size≤i)∧w.heap.size≤d∧w.heap.size≤m:=by
 have C0:=Cu.new hb x y z
 have hB:=hide hb
 have hmm:=@run_makeMap Tryz.prog
 clear hb
 go_enter Tryz.func36,Tryz.ntmps36
 go_wp2_with(go_at_call 9;refine C0.mono ?_;clear C0;rintro e w1 ⟨p,O,rfl,hk,hb1,hO⟩;have HK:=hide hk;have HB1:=hide hb1;have HO:=hide hO;clear hk hb1 hO)
 go_ret
 have h1:Below w1.heap.size w1 ((w1.alloc (.map #[] 0)).alloc (.cells #[.pointer (V ⟨p,0,H⟩),.map (V w1.heap.size)] 151)):=((Below.refl _ _).alloc (zD _) _).alloc (by simp) _
 have hs:=HB1.out.size
 have hs0:=hB.out.size
 have e2:=zI (w1.alloc (.map #[] 0)) (.cells #[.pointer (V ⟨p,0,H⟩),.map (V w1.heap.size)] 151)
 have e3:(w1.alloc (.map #[] 0)).heap.size =w1.heap.size+1:=by simp
 rw[e3]at e2
 refine⟨w1.heap.size+1,p,w1.heap.size,O,by simp,HK.out.on h1,⟨e2,?_,?_,?_,by omega,by omega,IdR.none⟩,bel_on' HB1.out h1,HO.out,by omega,by omega⟩
 ·exact(Gd.Pu.Pa.Mx.new unX Tryz.prog 3 w1).on ((Below.refl _ _).alloc (zD _) _)
 ·exact fun e=>by have:=(HK.out.lt e).2;omega
 ·exact fun e=>by have:=(HK.out.lt e).2;omega
theorem drejects_any(e:Int)(w:World):Calls Tryz.prog 121 #[.int S e] w fun r w'=>r=G (.bool (decide (e≠10)&&decide (e≠8)))∧w=w':=by
 by_cases h1:e=10
 ·subst h1;go_enter Tryz.func121,Tryz.ntmps121
  go_wp2
  go_ret
  exact⟨rfl,rfl⟩
 ·by_cases h2:e=8
  ·subst h2;go_enter Tryz.func121,Tryz.ntmps121
   go_wp2
   go_ret
   exact⟨rfl,rfl⟩
  ·have q1:(e != 10)=true:=by simpa using h1
   have q2:(e != 8)=true:=by simpa using h2
   have HE:Hid ((decide (e≠10)&&decide (e≠8))=true):=by show _=_;simp[h1,h2]
   go_enter Tryz.func121,Tryz.ntmps121
   go_wp2
   go_ret
   rw[HE.out];exact⟨rfl,rfl⟩
theorem disid_any(e:Int)(w:World):Calls Tryz.prog 122 #[.int S e] w fun r w'=>r=G (.bool (decide (1≤e∧e≤999)))∧w=w':=by
 by_cases h1:1≤e
 ·by_cases h2:e≤999
  ·rw[decide_eq_true (show 1≤e∧e≤999 from⟨h1,h2⟩)];go_enter Tryz.func122,Tryz.ntmps122
   go_wp2
   go_ret
   exact⟨rfl,rfl⟩
  ·rw[decide_eq_false (show¬(1≤e∧e≤999)from fun h=>h2 h.2)];go_enter Tryz.func122,Tryz.ntmps122
   go_wp2
   go_ret
   exact⟨rfl,rfl⟩
 ·rw[decide_eq_false (show¬(1≤e∧e≤999)from fun h=>h1 h.1)];go_enter Tryz.func122,Tryz.ntmps122
  go_wp2
  go_ret
  exact⟨rfl,rfl⟩
def SubR(w0:World)(O:Pt→Nat→Prop)(w:World)(d p m n:Nat)(v:Ch)(R:Int→Bool)(o:Od)(e:Ending)(w':World):Prop:=
 ∃a c O',e=G (.tuple #[.slice a (begA v o).length c,.int S (begE v o)])∧AnC w' O' a c (begA v o)∧Cu w0 O' w' p (begS v o)∧DkS w0 O' w' d p m (n+1) (subR R (begE v o) o.id)∧GoD O m w O' w'
def MidD(w0:World)(O:Pt→Nat→Prop)(w:World)(d p m n:Nat)(v:Ch)(R:Int→Bool)(o:Od)(a:Option Addr)(c:Nat)(w1:World):Prop:=
 ∃O',AnC w1 O' a c (begA v o)∧Cu w0 O' w1 p (begS v o)∧DkS w0 O' w1 d p m n R∧Go_ O w O' w1
theorem MidD.on{o:Od}{a:Option Addr}{c:Nat}(h:MidD w0 O w d p m n v R o a c w1)(hb:Below w1.heap.size w1 w2):MidD w0 O w d p m n v R o a c w2:=by
 obtain⟨O',h1,h2,h3,h4⟩:=h
 exact⟨O',h1.on hb,h2.on hb,h3.on hb,fun i e=>(h4.1 i e).elim .inl (fun e=> .inr ⟨e.1,zJ e.2 hb.size⟩),h4.2.trans (zE hb)⟩
theorem MidD.end_{o:Od}{a:Option Addr}{c:Nat}(h:MidD w0 O w d p m n v R o a c w1){n':Nat}(hR:subR R (begE v o) o.id=R')(hk:Rg.Kept (fun i _=>i=m) w1 w2)(hx:Gd.Pu.Pa.Mx unX Tryz.prog 3 w2 m n' (inR R'))(hn:n'≤n+1):
 SubR w0 O w d p m n v R o (G (.tuple #[.slice a (begA v o).length c,.int S (begE v o)])) w2:=by
 subst hR
 obtain⟨O',h1,h2,h3,h4⟩:=h
 exact⟨a,c,O',rfl,h1.turn h3 hk,h2.other hk (fun i _ e e2=>h3.nm (e2▸e)) (fun i _ e=>e▸h3.lm),h3.turn hk (hx.mono hn) (h3.id.sub _ _),GoD.turn h4 hk⟩
theorem MidD.no{o:Od}{a:Option Addr}{c:Nat}(h:MidD w0 O w d p m n v R o a c w1)(hR:subR R (begE v o) o.id=R):SubR w0 O w d p m n v R o (G (.tuple #[.slice a (begA v o).length c,.int S (begE v o)])) w1:=by
 obtain⟨O',-,-,h3,-⟩:=id h
 exact h.end_ hR (Rg.Kept.refl _ _) h3.mp (Nat.le_succ n)
theorem MidD.del{o:Od}{a:Option Addr}{c:Nat}(h:MidD w0 O w d p m n v R o a c w1)(hw:(Lit.int S o.id).wf =true)(hR:subR R (begE v o) o.id=upR R o.id false):
 ∃w2,(∀ty,(Builtin.delete_ #[149,3] ty #[.map (V m),.int S o.id]).run Tryz.prog w1.drew= .ok (.tuple #[]) w2)∧SubR w0 O w d p m n v R o (G (.tuple #[.slice a (begA v o).length c,.int S (begE v o)])) w2:=by
 have h':=h.on (Below.refl _ _).drew
 obtain⟨O',-,-,h3,-⟩:=id h'
 obtain⟨w2,r1,r2,r3⟩:=mx_del h3.mp Tryz.underlying3 Tryz.underlying149 hw
 rw[inR_dn]at r2
 exact⟨w2,r1,h'.end_ hR r3 r2 (Nat.le_succ n)⟩
theorem MidD.put{o:Od}{a:Option Addr}{c:Nat}(h:MidD w0 O w d p m n v R o a c w1)(hn:n<1000000)(hw:(Lit.int S o.id).wf =true)(hR:subR R (begE v o) o.id=upR R o.id true):
 ∃w2,(Instr.mapUpdate 149 (.map (V m)) (.int S o.id) (.agg #[])).run Tryz.prog w1.drew= .ok () w2∧SubR w0 O w d p m n v R o (G (.tuple #[.slice a (begA v o).length c,.int S (begE v o)])) w2:=by
 have h':=h.on (Below.refl _ _).drew
 obtain⟨O',-,-,h3,-⟩:=id h'
 obtain⟨w2,r1,r2,r3⟩:=h3.mp.put Tryz.underlying3 Tryz.underlying149 hw hn ()
 rw[inR_up]at r2
 exact⟨w2,r1,h'.end_ hR r3 r2 (zD _)⟩
set_option maxRecDepth 100000 in
set_option maxHeartbeats 4000000 in
theorem dsub_any(hg:Gl w0)(c:Cu w0 O w p v)(k:DkS w0 O w d p m n R)(hn:n<1000000)(o:Od){sa:Option Addr}{sc:Nat}(hs:Sts w sa o.steps)(hsl:o.steps.length≤9223372036854775807)(hw:(Lit.int S o.id).wf =true):
 Calls Tryz.prog 39 #[.pointer (V ⟨d,0,H⟩),.agg #[.int S o.id,.int S o.item,.int S o.qty,.int S o.client,.int S o.price,.slice sa o.steps.length sc]] w (SubR w0 O w d p m n v R o):=by
 obtain⟨U,hU⟩:∃U,U=w.alloc (.cells #[.int S o.id,.int S o.item,.int S o.qty,.int S o.client,.int S o.price,.slice sa o.steps.length sc] 32):=⟨_,rfl⟩
 have hbU:Below w.heap.size w U:=by rw[hU];exact(Below.refl _ _).alloc (zD _) _
 have hx:U.heap[w.heap.size]?=V (.cells #[.int S o.id,.int S o.item,.int S o.qty,.int S o.client,.int S o.price,.slice sa o.steps.length sc] 32 (0,0)):=by rw[hU];exact zI w _
 have CH:=dchief_any (k.on hbU)
 have c0:=(k.on hbU).c0.1
 have z0:U.cell? ⟨w.heap.size,0,H⟩=V (.int S o.id):=by rw[cell_of hx];rfl
 have z1:U.cell? ⟨w.heap.size,1,H⟩=V (.int S o.item):=by rw[cell_of hx];rfl
 have z2:U.cell? ⟨w.heap.size,2,H⟩=V (.int S o.qty):=by rw[cell_of hx];rfl
 have z3:U.cell? ⟨w.heap.size,3,H⟩=V (.int S o.client):=by rw[cell_of hx];rfl
 have z4:U.cell? ⟨w.heap.size,4,H⟩=V (.int S o.price):=by rw[cell_of hx];rfl
 have z5:U.cell? ⟨w.heap.size,5,H⟩=V (.slice sa o.steps.length sc):=by rw[cell_of hx];rfl
 have hlt:w.heap.size<U.heap.size:=(Array.getElem?_eq_some_iff.1 hx).1
 have BEG:Hid (∀u,Below U.heap.size U u→Calls Tryz.prog 11 #[.pointer (V ⟨p,0,H⟩),.agg #[.int S o.id,.int S o.item,.int S o.qty,.int S o.client,.int S o.price,.slice sa o.steps.length sc]] u fun x w1=>∃a c,x=G (.tuple #[.slice a (begA v o).length c,.int S (begE v o)])∧MidD w0 O w d p m n v R o a c w1∧w1.cell? ⟨d,0,H⟩=V (.pointer (V ⟨p,0,H⟩))∧w1.cell? ⟨d,1,H⟩=V (.map (V m))∧w1.heap[w.heap.size]?=V (.cells #[.int S o.id,.int S o.item,.int S o.qty,.int S o.client,.int S o.price,.slice sa o.steps.length sc] 32 (0,0))):=fun u hu=>by
  have hb:=bel_on' hbU hu
  refine(Cu.begin hg (c.on hb) o (hs.below hb) hsl hw rfl rfl rfl).mono ?_;rintro x w1 ⟨a,c',O',h1,h2,h3,h4⟩;have k1:=(k.on hb).step h4
  have ha:Abc u O w.heap.size (.cells #[.int S o.id,.int S o.item,.int S o.qty,.int S o.client,.int S o.price,.slice sa o.steps.length sc] 32):=⟨Sg.keepB hx hu,fun e=>by have:=(c.lt e).2;omega⟩
  refine⟨a,c',h1,⟨O',h2,h3,k1,fun i e=>(h4.1 i e).elim .inl (fun e=> .inr ⟨zK hb.size e.1,e.2⟩),(zE hb).trans h4.2⟩,k1.c0.1,k1.c0.2,(ha.step h4).1⟩
 have DEL:Hid (∀a c w1,begE v o=0→MidD w0 O w d p m n v R o a c w1→∃w2,(∀ty,(Builtin.delete_ #[149,3] ty #[.map (V m),.int S o.id]).run Tryz.prog w1.drew= .ok (.tuple #[]) w2)∧SubR w0 O w d p m n v R o (G (.tuple #[.slice a (begA v o).length c,.int S (begE v o)])) w2):=fun a c w1 e h=>h.del hw (by rw[e];rfl)
 have PUT:Hid (∀a c w1,begE v o≠0→(begE v o≠10∧begE v o≠8)∧(1≤o.id∧o.id≤999)→MidD w0 O w d p m n v R o a c w1→∃w2,(Instr.mapUpdate 149 (.map (V m)) (.int S o.id) (.agg #[])).run Tryz.prog w1.drew= .ok () w2∧SubR w0 O w d p m n v R o (G (.tuple #[.slice a (begA v o).length c,.int S (begE v o)])) w2):=fun a c w1 e e2 h=>h.put hn hw (by unfold subR;rw[if_neg e,if_pos e2])
 have NON:Hid (∀a c w1,begE v o≠0→¬((begE v o≠10∧begE v o≠8)∧(1≤o.id∧o.id≤999))→MidD w0 O w d p m n v R o a c w1→SubR w0 O w d p m n v R o (G (.tuple #[.slice a (begA v o).length c,.int S (begE v o)])) w1):=fun a c w1 e e2 h=>h.no (by unfold subR;rw[if_neg e,if_neg e2])
 generalize hSU:SubR w0 O w d p m n v R o=SU at *
 generalize MidD w0 O w d p m n v R o=MD at *
 generalize begE v o=e at *
 generalize (begA v o).length =al at *
 have HU:=hide hU
 have HLT:=hide hlt
 rw[hU]at CH
 clear hSU hU hbU hx hlt hg c k hn hs hsl hw
 go_enter Tryz.func39,Tryz.ntmps39
 go_wp2_with(go_at_call 38;refine CH.mono ?_;clear CH;rintro r w' ⟨rfl,rfl⟩)
 rw[←HU.out]
 go_region_held3(fun w'=>w'.cell? ⟨d,0,H⟩=V (.pointer (V ⟨p,0,H⟩))∧w'.cell? ⟨w.heap.size,0,H⟩=V (.int S o.id)∧w'.cell? ⟨w.heap.size,1,H⟩=V (.int S o.item)∧w'.cell? ⟨w.heap.size,2,H⟩=V (.int S o.qty)∧w'.cell? ⟨w.heap.size,3,H⟩=V (.int S o.client)∧w'.cell? ⟨w.heap.size,4,H⟩=V (.int S o.price)∧w'.cell? ⟨w.heap.size,5,H⟩=V (.slice sa o.steps.length sc)) (go_keep) (first
  |(go_at_call 11;refine(BEG.out _ (by first|exact Below.refl _ _|exact(Below.refl _ _).drew)).mono ?_;clear BEG;rintro x w1 ⟨a,ac,rfl,hm,h0,h1,hx⟩;clear c0 z0 z1 z2 z3 z4 z5;have c0:=h0;have c1:=h1;have HM:=hide hm
    have z0:w1.cell? ⟨w.heap.size,0,H⟩=V (.int S o.id):=(by rw[cell_of hx];rfl)
    have z1:w1.cell? ⟨w.heap.size,1,H⟩=V (.int S o.item):=(by rw[cell_of hx];rfl)
    have z2:w1.cell? ⟨w.heap.size,2,H⟩=V (.int S o.qty):=(by rw[cell_of hx];rfl)
    have z3:w1.cell? ⟨w.heap.size,3,H⟩=V (.int S o.client):=(by rw[cell_of hx];rfl)
    have z4:w1.cell? ⟨w.heap.size,4,H⟩=V (.int S o.price):=(by rw[cell_of hx];rfl)
    have z5:w1.cell? ⟨w.heap.size,5,H⟩=V (.slice sa o.steps.length sc):=(by rw[cell_of hx];rfl)
    clear hm h0 h1 hx))
 by_cases he:e=0
 ·obtain⟨w2,r1,r2⟩:=DEL.out _ _ _ he HM.out;have R2:=hide r2
  subst he;clear r2 DEL PUT NON HM
  go_wp2_with fail
  go_region
  all_goals go_wp2
  all_goals exact R2.out
 ·have q0:(e==0)=false:=by simpa using he
  have RJ:=drejects_any e w1
  have IJ:=disid_any o.id w1
  by_cases hr:e≠10∧e≠8
  ·have e1:(decide (e≠10)&&decide (e≠8))=true:=by simp[hr.1,hr.2]
   rw[e1]at RJ;by_cases hi:1≤o.id∧o.id≤999
   ·rw[decide_eq_true hi]at IJ;obtain⟨w2,r1,r2⟩:=PUT.out _ _ _ he ⟨hr,hi⟩ HM.out;have R2:=hide r2
    clear r2 DEL PUT NON HM hi hr e1 he
    go_wp2_with(first
     |(go_at_call 121;refine RJ.mono ?_;clear RJ;rintro x w' ⟨rfl,rfl⟩)
     |(go_at_call 122;refine IJ.mono ?_;clear IJ;rintro x w' ⟨rfl,rfl⟩))
    go_region
    all_goals go_wp2
    all_goals exact R2.out
   ·rw[decide_eq_false hi]at IJ;have R2:=hide (NON.out _ _ _ he (fun h=>hi h.2) HM.out)
    clear DEL PUT NON HM hi hr e1 he
    go_wp2_with(first
     |(go_at_call 121;refine RJ.mono ?_;clear RJ;rintro x w' ⟨rfl,rfl⟩)
     |(go_at_call 122;refine IJ.mono ?_;clear IJ;rintro x w' ⟨rfl,rfl⟩))
    exact R2.out
  ·have e1:(decide (e≠10)&&decide (e≠8))=false:=by
    by_cases h1:e=10
    ·simp[h1]
    ·by_cases h2:e=8
     ·simp[h2]
     ·exact absurd ⟨h1,h2⟩ hr
   rw[e1]at RJ;have R2:=hide (NON.out _ _ _ he (fun h=>hr h.1) HM.out)
   clear DEL PUT NON HM hr e1 he IJ
   go_wp2_with(go_at_call 121;refine RJ.mono ?_;clear RJ;rintro x w' ⟨rfl,rfl⟩)
   exact R2.out
end
theorem txB_emp(a:List UInt8):(txB a).toList.isEmpty =decide (a= []):=by
 rw[ByteArray.toList_eq]
 show a.isEmpty=_
 cases a<;>rfl
theorem dk_itoa{n:Int}(h0:0≤n)(h1:n<10):(txB (Lib.itoa n)).size ≤11:=by
 rw[txB_len,itoa_one h0 h1]
 show 1≤11
 decide
set_option maxHeartbeats 1000000 in
theorem dshare_any(l:List Bool)(a:Option Addr)(c:Nat)(w:World)(ha:Bls w a l)(hl:l.length≤3)(hg:Gl w):
 Calls Tryz.prog 168 #[.slice a l.length c] w fun e w'=>e=G (.string (txB (shrL l)))∧Below w.heap.size w w':=by
 have hn3:truN l≤3:=zK (truN_le l) hl
 obtain⟨n,hn⟩:∃n,truN l=n:=⟨_,rfl⟩
 rw[hn]at hn3
 have I1:Hid (Calls Tryz.prog 125 #[.int S (n:Int)] w fun e w'=>e=G (.string (txB (Lib.itoa n)))∧Below w.heap.size w w'):=itoa_any _ w (by omega) (by omega) hg
 have I2:Hid (∀u,Below w.heap.size w u→Calls Tryz.prog 125 #[.int S (l.length:Int)] u fun e w'=>e=G (.string (txB (Lib.itoa l.length)))∧Below w.heap.size w w'):=fun u hu=>(itoa_any _ u (by omega) (by omega) (hg.on hu)).mono (fun _ _ ⟨e1,e2⟩=>⟨e1,bel_on' hu e2⟩)
 have HS:Hid (txB (Lib.itoa n)++(⟨#[47]⟩:ByteArray)++txB (Lib.itoa l.length)=txB (shrL l)):=by
  show txB (Lib.itoa n)++txB [47]++txB (Lib.itoa l.length)=_
  rw[txB_app,txB_app];unfold shrL;rw[hn]
 have hys:=dk_itoa (n:=(n:Int)) (by omega) (by omega)
 have hzs:=dk_itoa (n:=(l.length:Int)) (by omega) (by omega)
 generalize txB (Lib.itoa n)=y at *
 generalize txB (Lib.itoa l.length)=z at *
 have HI:=hide ha
 have HN:=hide hn
 clear ha hg hn
 go_enter Tryz.func168,Tryz.ntmps168
 go_wp2
 go_loopw [3,8] (fun ct i wr=>∃j m:Nat,i= .int S j∧ct= .int S m∧j≤l.length∧wr=w∧Hid (m=truN (l.take j))∧m≤j) (fun _ i _=>l.length-(Go.RowKit.intOf i).toNat)
 case atStart=>exact⟨0,0,rfl,rfl,Nat.zero_le _,rfl,rfl,zD _⟩
 case round=>
  obtain⟨j,m,rfl,rfl,hj,rfl,HM,hm⟩:=hrel;by_cases hlt:j<l.length
  ·obtain⟨bb,off,x,rfl,hx,hc⟩:=HI.out.get hlt;have hT:truN (l.take (j+1))=truN (l.take j)+(if x=true then 1 else 0):=by
    obtain⟨hlt',e⟩:=List.getElem?_eq_some_iff.1 hx;rw[List.take_succ_eq_append_getElem hlt,truN_snoc,e]
   rw[←HM.out]at hT;have HT:=hide hT
   have ql:(j:Int)<(l.length:Int):=by omega
   clear hx hT;cases x
   ·go_wp2
    go_roundw
    case rel=>exact⟨j+1,m,by go_num,rfl,by omega,by simp,by show m=_;rw[HT.out];rfl,by omega⟩
    case measure=>simp[Go.RowKit.intOf];omega
   ·go_wp2
    go_roundw
    case rel=>exact⟨j+1,m+1,by go_num,by go_num,by omega,by simp,by show m+1=_;rw[HT.out];rfl,by omega⟩
    case measure=>simp[Go.RowKit.intOf];omega
  ·have ql:¬(j:Int)<(l.length:Int):=by omega
   have e:m=n:=by
    have h3:=HM.out
    rw[List.take_of_length_le (show l.length≤j by omega)]at h3;exact h3.trans HN.out
   subst e
   go_wp2_with(first
    |(go_at_call 125;refine I1.out.mono ?_;rintro e w1 ⟨rfl,hb⟩;have J2:=I2.out _ hb;clear hb I1 I2)
    |(go_at_call 125;refine J2.mono ?_;clear J2;rintro e w2 ⟨rfl,hb⟩;have HB:=hide hb;clear hb))
   go_ret
   exact⟨congrArg (fun t=>Ending.returned (.string t)) HS.out,HB.out⟩
def whoT(a b:Bool):Nat→List UInt8
 |0=>[]
 |1=>if a=true then[32,115,116,111,99,107]else[]
 |_=>whoL a b
theorem whoT_size(a b:Bool)(n:Nat):(txB (whoT a b n)).size ≤12:=by
 rw[txB_len]
 unfold whoT whoL
 split<;>cases a<;>cases b<;>decide
set_option maxRecDepth 100000 in
set_option maxHeartbeats 1000000 in
theorem dwhose_any(x y:Bool)(w:World):Calls Tryz.prog 169 #[.agg #[.bool x,.bool y]] w fun e w'=>e=G (.string (txB (whoL x y)))∧Below w.heap.size w w':=by
 have hb0:Below w.heap.size w (w.alloc (.cells #[.bool x,.bool y] 65)):=(Below.refl _ _).alloc (zD _) _
 have hx0:=zI w (.cells #[.bool x,.bool y] 65)
 have c0:(w.alloc (.cells #[.bool x,.bool y] 65)).cell? ⟨w.heap.size,0,H⟩=V (.bool x):=by rw[cell_of hx0];rfl
 have c1:(w.alloc (.cells #[.bool x,.bool y] 65)).cell? ⟨w.heap.size,1,H⟩=V (.bool y):=by rw[cell_of hx0];rfl
 have HB:=hide hb0
 clear hb0 hx0
 have E0:Hid (txB []++((⟨#[32]⟩:ByteArray)++(⟨#[115,116,111,99,107]⟩:ByteArray))=txB (whoT true y 1)):=by
  show txB []++(txB [32]++txB [115,116,111,99,107])=_
  rw[txB_app,txB_app];rfl
 have E1:Hid (∀t,t=whoT x true 1→txB t++((⟨#[32]⟩:ByteArray)++(⟨#[112,117,114,115,101]⟩:ByteArray))=txB (whoL x true)):=by
  rintro t rfl;show txB _++(txB [32]++txB [112,117,114,115,101])=_
  rw[txB_app,txB_app];cases x<;>rfl
 have hi0:∀U:World,(Instr.index 210 (.agg #[.string ⟨#[115,116,111,99,107]⟩,.string ⟨#[112,117,114,115,101]⟩]) (.int S 0)).run Tryz.prog U= .ok (.string ⟨#[115,116,111,99,107]⟩) U:=fun _=>by kernel_rfl
 have hi1:∀U:World,(Instr.index 210 (.agg #[.string ⟨#[115,116,111,99,107]⟩,.string ⟨#[112,117,114,115,101]⟩]) (.int S 1)).run Tryz.prog U= .ok (.string ⟨#[112,117,114,115,101]⟩) U:=fun _=>by kernel_rfl
 have SZ:Hid (∀(t:ByteArray)(j:Nat),t=txB (whoT x y j)→t.size≤12):=by
  rintro t j rfl;exact whoT_size x y j
 go_enter Tryz.func169,Tryz.ntmps169
 go_wp2
 go_loopw [3,7] (fun n i wr=>∃(j:Nat)(z:Int)(t:ByteArray),i= .int S z∧Hid (z=(j:Int))∧n= .string t∧j≤2∧wr=w.alloc (.cells #[.bool x,.bool y] 65)∧Hid (t=txB (whoT x y j))∧t.size≤12) (fun _ i _=>2-(Go.RowKit.intOf i).toNat)
 case atStart=>exact⟨0,0,_,rfl,rfl,rfl,by omega,rfl,rfl,by decide⟩
 case round=>
  obtain⟨j,z,t,rfl,HZ,rfl,hj,rfl,HT,ht⟩:=hrel;have h3:j=0∨j=1∨j=2:=by omega
  rcases h3 with rfl|rfl|rfl
  ·obtain rfl:z=0:=HZ.out;cases x
   ·have HE:Hid (t=txB (whoT false y 1)):=HT.out
    clear SZ E0 E1 HT
    go_wp2
    go_roundw
    case rel=>exact⟨1,1,t,by go_num,rfl,rfl,by omega,by simp,HE,ht⟩
    case measure=>simp[Go.RowKit.intOf]
   ·have HE:Hid (t++((⟨#[32]⟩:ByteArray)++(⟨#[115,116,111,99,107]⟩:ByteArray))=txB (whoT true y 1)):=by
     have h:=E0.out
     rw[show txB []=t from HT.out.symm]at h;exact h
    have HS:=hide (SZ.out _ 1 HE.out)
    clear SZ E0 E1 HT
    go_wp2
    go_roundw
    case rel=>exact⟨1,1,_,by go_num,rfl,rfl,by omega,by simp,HE,HS.out⟩
    case measure=>simp[Go.RowKit.intOf]
  ·obtain rfl:z=1:=HZ.out;cases y
   ·have HE:Hid (t=txB (whoT x false 2)):=by
     show t=_
     rw[HT.out];cases x<;>rfl
    clear SZ E0 E1 HT
    go_wp2
    go_roundw
    case rel=>exact⟨2,2,t,by go_num,rfl,rfl,by omega,by simp,HE,ht⟩
    case measure=>simp[Go.RowKit.intOf]
   ·have HE:Hid (t++((⟨#[32]⟩:ByteArray)++(⟨#[112,117,114,115,101]⟩:ByteArray))=txB (whoT x true 2)):=by
     have h:=E1.out _ rfl
     rw[show txB (whoT x true 1)=t from HT.out.symm]at h;exact h
    have HS:=hide (SZ.out _ 2 HE.out)
    clear SZ E0 E1 HT
    go_wp2
    go_roundw
    case rel=>exact⟨2,2,_,by go_num,rfl,rfl,by omega,by simp,HE,HS.out⟩
    case measure=>simp[Go.RowKit.intOf]
  ·obtain rfl:z=2:=HZ.out;have HE:Hid (t=txB (whoL x y)):=HT.out
   clear SZ E0 E1 HT
   go_wp2
   go_ret
   exact⟨congrArg (fun t=>Ending.returned (.string t)) HE.out,HB.out⟩
theorem shr_size{l:List Bool}(h:l.length≤3):(txB (shrL l)).size ≤3:=by
 rw[txB_len]
 unfold shrL
 have:=truN_le l
 rw[itoa_one (by omega) (by omega),itoa_one (by omega) (by omega)]
 exact zD 3
theorem who_size(a b:Bool):(txB (whoL a b)).size ≤12:=by
 rw[txB_len]
 unfold whoL
 cases a<;>cases b<;>decide
section
variable {w0 w:World}{O:Pt→Nat→Prop}{d p m n:Nat}{v:Ch}{R:Int→Bool}
theorem ret_txt{a b:ByteArray}(h:a=b):Ending.returned (.string a)=G (.string b):=by rw[h]
set_option maxRecDepth 100000 in
set_option maxHeartbeats 4000000 in
theorem dwords_any(hg:Gl w0)(k:Dk w0 O w d p m n v R){id:Int}(hw:(Lit.int S id).wf =true):
 Calls Tryz.prog 124 #[.pointer (V ⟨d,0,H⟩),.int S id] w fun e w'=>e=G (.string (txB (wrdL (stD v R id) (lkD v id).f)))∧Below w.heap.size w w':=by
 have C0:=dchief_any k.2
 have F0:=k.1.facts hw
 have S0:Hid (∀u,Below w.heap.size w u→Calls Tryz.prog 41 #[.pointer (V ⟨d,0,H⟩),.int S id] u fun e w'=>e=G (.int S (stD v R id))∧Below u.heap.size u w'):=fun u hu=>dstatus_any (k.on hu) hw
 have G0:Hid (∀u,Below w.heap.size w u→Gl u):=fun u hu=>hg.on (bel_on' k.1.2.2 hu)
 have HT:=hide (k.1.three id)
 generalize stD v R id=s at *
 generalize lkD v id=l at *
 generalize (v.L id).isSome =is at *
 clear k hw hg
 unfold FactR at F0
 go_enter Tryz.func124,Tryz.ntmps124
 go_wp2_with(go_at_call 38;refine C0.mono ?_;rintro e w1 ⟨rfl,rfl⟩)
 refine F0.mono ?_
 rintro e u1 ⟨sa,sc,da,dc,ua,uc,rfl,-,hF,hb⟩
 have HF:=hide hF
 have HB:=hide hb
 clear hF hb F0 C0
 go_wp2_with fail
 obtain⟨U,hU⟩:∃U,U=(u1.alloc (.cells #[.int S l.o.id,.int S l.o.item,.int S l.o.qty,.int S l.o.client,.int S l.o.price,.slice sa l.o.steps.length sc] 32)).alloc (.cells #[.slice da l.f.dn.length dc,.slice ua l.f.un.length uc,.bool l.f.asked,.bool l.f.yes,.bool l.f.turned,.bool l.f.k0,.bool l.f.k1,.bool l.f.ship,.bool l.f.d0,.bool l.f.d1,.bool l.f.acc] 68):=⟨_,rfl⟩
 have h4:Below u1.heap.size u1 U:=by rw[hU];exact((Below.refl _ _).alloc (zD _) _).alloc (by simp) _
 have hf:U.heap[u1.heap.size+1]?=V (.cells #[.slice da l.f.dn.length dc,.slice ua l.f.un.length uc,.bool l.f.asked,.bool l.f.yes,.bool l.f.turned,.bool l.f.k0,.bool l.f.k1,.bool l.f.ship,.bool l.f.d0,.bool l.f.d1,.bool l.f.acc] 68 (0,0)):=by
  have h1:=zI (u1.alloc (.cells #[.int S l.o.id,.int S l.o.item,.int S l.o.qty,.int S l.o.client,.int S l.o.price,.slice sa l.o.steps.length sc] 32)) (.cells #[.slice da l.f.dn.length dc,.slice ua l.f.un.length uc,.bool l.f.asked,.bool l.f.yes,.bool l.f.turned,.bool l.f.k0,.bool l.f.k1,.bool l.f.ship,.bool l.f.d0,.bool l.f.d1,.bool l.f.acc] 68)
  rw[World.size_alloc]at h1;rw[hU];exact h1
 rw[←hU]
 clear hU
 refine(S0.out U (bel_on' HB.out h4)).mono ?_
 rintro e u2 ⟨rfl,hb2⟩
 have h5:=bel_on' HB.out (bel_on' h4 hb2)
 have hf2:=Sg.keepB hf hb2
 have hF2:FaIn u2 l.f da dc ua uc:=HF.out.below (bel_on' h4 hb2)
 have SD:=dshare_any l.f.dn da dc u2 hF2.dn HT.out.2.1 (G0.out _ h5)
 have SU:=dshare_any l.f.un ua uc u2 hF2.un HT.out.2.2 (G0.out _ h5)
 have SW:=dwhose_any l.f.d0 l.f.d1 u2
 have y0:u2.cell? ⟨u1.heap.size+1,0,H⟩=V (.slice da l.f.dn.length dc):=by rw[cell_of hf2];rfl
 have y1:u2.cell? ⟨u1.heap.size+1,1,H⟩=V (.slice ua l.f.un.length uc):=by rw[cell_of hf2];rfl
 have y8:u2.cell? ⟨u1.heap.size+1,8,H⟩=V (.bool l.f.d0):=by rw[cell_of hf2];rfl
 have y9:u2.cell? ⟨u1.heap.size+1,9,H⟩=V (.bool l.f.d1):=by rw[cell_of hf2];rfl
 have z0:=shr_size HT.out.2.1
 have z1:=shr_size HT.out.2.2
 have z2:=who_size l.f.d0 l.f.d1
 have H5:=hide h5
 have E1:Hid ((⟨#[102,111,114,119,97,114,100,32]⟩:ByteArray)++txB (shrL l.f.dn)=txB (wrdL 1 l.f)):=by
  show txB [102,111,114,119,97,114,100,32]++_=_
  rw[txB_app];rfl
 have E4:Hid ((⟨#[117,110,100,111,105,110,103,32]⟩:ByteArray)++txB (shrL l.f.un)=txB (wrdL 4 l.f)):=by
  show txB [117,110,100,111,105,110,103,32]++_=_
  rw[txB_app];rfl
 have E7:Hid ((⟨#[100,97,109,97,103,101,100]⟩:ByteArray)++txB (whoL l.f.d0 l.f.d1)=txB (wrdL 7 l.f)):=by
  show txB [100,97,109,97,103,101,100]++_=_
  rw[txB_app];rfl
 have EE:Hid (txB (wrdL 2 l.f)=txB [112,114,101,112,97,114,105,110,103]∧txB (wrdL 3 l.f)=txB [99,111,109,109,105,116,116,101,100]∧txB (wrdL 5 l.f)=txB [115,104,105,112,112,101,100]∧txB (wrdL 6 l.f)=txB [97,98,111,114,116,101,100]∧txB (wrdL 8 l.f)=txB [114,101,106,101,99,116,101,100]):=⟨rfl,rfl,rfl,rfl,rfl⟩
 generalize txB (shrL l.f.dn)=X0 at *
 generalize txB (shrL l.f.un)=X1 at *
 generalize txB (whoL l.f.d0 l.f.d1)=X2 at *
 clear S0 G0 HT HF HB h4 hf hb2 h5 hf2 hF2
 by_cases e1:s=1
 ·subst e1
  go_wp2_with(go_at_call 168;refine SD.mono ?_;rintro e u3 ⟨rfl,hb3⟩;have HB3:=hide (bel_on' H5.out hb3);clear hb3)
  go_ret
  exact⟨ret_txt E1.out,HB3.out⟩
 by_cases e2:s=2
 ·subst e2
  go_wp2
  go_ret
  exact⟨ret_txt EE.out.1.symm,H5.out⟩
 by_cases e3:s=3
 ·subst e3
  go_wp2
  go_ret
  exact⟨ret_txt EE.out.2.1.symm,H5.out⟩
 by_cases e4:s=4
 ·subst e4
  go_wp2_with(go_at_call 168;refine SU.mono ?_;rintro e u3 ⟨rfl,hb3⟩;have HB3:=hide (bel_on' H5.out hb3);clear hb3)
  go_ret
  exact⟨ret_txt E4.out,HB3.out⟩
 by_cases e5:s=5
 ·subst e5
  go_wp2
  go_ret
  exact⟨ret_txt EE.out.2.2.1.symm,H5.out⟩
 by_cases e6:s=6
 ·subst e6
  go_wp2
  go_ret
  exact⟨ret_txt EE.out.2.2.2.1.symm,H5.out⟩
 by_cases e7:s=7
 ·subst e7
  go_wp2_with(go_at_call 169;refine SW.mono ?_;rintro e u3 ⟨rfl,hb3⟩;have HB3:=hide (bel_on' H5.out hb3);clear hb3)
  go_ret
  exact⟨ret_txt E7.out,HB3.out⟩
 by_cases e8:s=8
 ·subst e8
  go_wp2
  go_ret
  exact⟨ret_txt EE.out.2.2.2.2.symm,H5.out⟩
 have EN:Hid ((⟨#[]⟩:ByteArray)=txB (wrdL s l.f)):=by
  show _=_
  unfold wrdL;rw[if_neg e1,if_neg e2,if_neg e3,if_neg e4,if_neg e5,if_neg e6,if_neg e7,if_neg e8];rfl
 go_wp2
 go_ret
 exact⟨ret_txt EN.out,H5.out⟩
theorem wrd_size(s:Int){l:Lk}(h1:l.f.dn.length≤3)(h2:l.f.un.length≤3):(txB (wrdL s l.f)).size ≤24:=by
 rw[txB_len]
 have a:=shr_size h1
 have b:=shr_size h2
 have c:=who_size l.f.d0 l.f.d1
 rw[txB_len]at a b c
 unfold wrdL
 split<;>(try split)<;>(try split)<;>(try split)<;>(try split)<;>(try split)<;>(try split)<;>(try split)<;>simp<;>omega
set_option maxHeartbeats 1000000 in
theorem dtell_any(hg:Gl w0)(k:Dk w0 O w d p m n v R){id:Int}(hw:(Lit.int S id).wf =true):
 Calls Tryz.prog 43 #[.pointer (V ⟨d,0,H⟩),.int S id] w fun e w'=>e=G (.string (txB (telL v R id)))∧Below w.heap.size w w':=by
 have W0:=dwords_any hg k hw
 have hwf:=hw
 simp only[Lit.wf,Bool.and_eq_true,decide_eq_true_eq]at hwf
 obtain⟨hw1,hw2⟩:=hwf
 change -9223372036854775808≤id at hw1
 change id≤9223372036854775807 at hw2
 have I0:Hid (∀u,Below w.heap.size w u→Calls Tryz.prog 125 #[.int S id] u fun e w'=>e=G (.string (txB (Lib.itoa id)))∧Below w.heap.size w w'):=fun u hu=>(itoa_any id u (by omega) (by omega) (hg.on (bel_on' k.1.2.2 hu))).mono (fun _ _ ⟨e1,e2⟩=>⟨e1,bel_on' hu e2⟩)
 have z0:(txB (Lib.itoa id)).size ≤32:=by rw[txB_len];exact zK (Lib.itoa_length_le id (by omega) (by omega)) (by decide)
 have z1:=wrd_size (stD v R id) (k.1.three id).2.1 (k.1.three id).2.2
 have HE:Hid (telL v R id=if wrdL (stD v R id) (lkD v id).f = []then[]else Lib.itoa id++ [58,32]++wrdL (stD v R id) (lkD v id).f):=rfl
 generalize wrdL (stD v R id) (lkD v id).f =W at *
 clear k hw hg hw1 hw2
 have hq:(txB W).toList.isEmpty =decide (W= []):=txB_emp W
 by_cases hW:W= []
 ·subst hW;rw[if_pos rfl]at HE;go_enter Tryz.func43,Tryz.ntmps43
  go_wp2_with(go_at_call 124;refine W0.mono ?_;clear W0;rintro e u ⟨rfl,hb⟩;have HB:=hide hb;clear hb)
  go_ret
  exact⟨ret_txt (by rw[HE.out];rfl),HB.out⟩
 ·rw[if_neg hW]at HE;rw[decide_eq_false hW]at hq;have HS:Hid (txB (Lib.itoa id)++(⟨#[58,32]⟩:ByteArray)++txB W=txB (telL v R id)):=by
   show txB _++txB [58,32]++txB _=_
   rw[txB_app,txB_app,HE.out]
  generalize txB W=X at *;generalize txB (Lib.itoa id)=Y at *;clear hW HE;go_enter Tryz.func43,Tryz.ntmps43
  go_wp2_with(first
   |(go_at_call 124;refine W0.mono ?_;clear W0;rintro e u ⟨rfl,hb⟩;have I2:=I0.out _ hb;clear hb I0)
   |(go_at_call 125;refine I2.mono ?_;clear I2;rintro e u2 ⟨rfl,hb⟩;have HB:=hide hb;clear hb))
  go_ret
  exact⟨ret_txt HS.out,HB.out⟩
end
end Go.Proofs.YthfgmpooehkhgaaGreatDoor
namespace Go.Proofs.YthfgmpooehkhgaaGreatDoor
open Go.ChangeShapes Go.WideShapes Go.ChangeAt Go.RowKit Go.Shelf Go.Maps Sg Bl
open Nat renaming le_refl→zD,le_trans→zK
open Rg.Kept renaming of_below→zE
open Go.World renaming alloc_heap_new→zI
open Option renaming some→V,none→H
open Go.IntKind renaming i64→S
open Go.Ending renaming returned→G
def dkv(N:Nat)(f:Int→Int):List Value:=(List.range N).map (fun k:Nat=> .int S (f k))
theorem dkv_len(N:Nat)(f:Int→Int):(dkv N f).length =N:=by simp[dkv]
theorem dkv_at{N:Nat}(f:Int→Int){i:Nat}(hi:i<N):(dkv N f)[i]?=V (.int S (f i)):=by simp[dkv,hi]
def fillT(f:Int→Int)(j:Nat):Int→Int:=fun x=>if x<(j:Int)then f x else 0
theorem dkv_new(N:Nat)(f:Int→Int):List.replicate N (.int S 0)=dkv N (fillT f 0):=by
 unfold dkv
 apply List.ext_getElem?
 intro k
 by_cases hk:k<N
 ·have h:¬((k:Int)<((0:Nat):Int)):=by omega
  simp[hk,fillT];omega
 ·simp[hk]
theorem dkv_put{N:Nat}(f:Int→Int){i:Nat}(hi:i<N):(dkv N (fillT f i)).set i (.int S (f i))=dkv N (fillT f (i+1)):=by
 unfold dkv
 apply List.ext_getElem?
 intro k
 rw[List.getElem?_set]
 by_cases e:i=k
 ·subst e;have h:(i:Int)<((i+1:Nat):Int):=by omega
  simp only[List.length_map,List.length_range,hi,if_true,List.getElem?_map,List.getElem?_range,Option.map_some,fillT,h]
 ·rw[if_neg e];by_cases hk:k<N
  ·simp[hk,fillT];by_cases h1:k<i
   ·rw[if_pos h1,if_pos (by omega)]
   ·rw[if_neg h1,if_neg (by omega)]
  ·simp[hk]
theorem dkv_all(N:Nat)(f:Int→Int):dkv N (fillT f N)=dkv N f:=by
 unfold dkv
 apply List.ext_getElem?
 intro k
 by_cases hk:k<N
 ·simp[hk,fillT]
 ·simp[hk]
theorem alloc_thousand(w:World){Z:List Value}(hZ:List.replicate 1000 (.int S 0)=Z):(Instr.alloc 163 true (.tuple #[])).run Tryz.prog w= .ok (.pointer (V ⟨w.heap.size,0,H⟩)) (w.alloc (.cells Z.toArray 163)):=by
 subst hZ
 rw[List.toArray_replicate]
 have hz:(zeroValue 163).run Tryz.prog w= .ok (.agg (Array.replicate 1000 (.int S 0))) w:=by kernel_rfl
 generalize Array.replicate 1000 _=cs at *
 simp[Instr.alloc,newVar,newRow,hz,Value.cells,Result.andThen]
theorem wpList_alloc_thousand{w:World}{ops:Array Oper}{rest:List Oper}{o:Oper}{a:Act}{Q:Exit→Act→World→Prop}(hg:o.guard=H)(hop:o.op=Op.alloc 163){Z:List Value}(hZ:List.replicate 1000 (.int S 0)=Z)
 (hK:wpList Tryz.prog ops Q rest (a.put o.dst (.pointer (V ⟨w.heap.size,0,H⟩))) (w.alloc (.cells Z.toArray 163))):wpList Tryz.prog ops Q (o::rest) a w:=by
 refine wpList_plain hg fun K' hK'=>?_
 have hrun:=alloc_thousand w hZ
 generalize Z.toArray=cs at hrun hK
 unfold Oper.wp
 simp only[execOp,hop]
 simp[hrun,Result.andThen]
 exact hK' _ _ hK
def FlB(w:World)(b:Nat)(f:Int→Int)(u:World):Prop:=u.heap[b]?=V (.cells (dkv 1000 f).toArray 163 (0,0))∧Below w.heap.size w u
theorem FlB.cell{w u:World}{b:Nat}{f:Int→Int}(h:FlB w b f u){j:Nat}(hj:j<1000):u.cell? ⟨b,j,H⟩=V (.int S (f j)):=by
 rw[cell_of h.1,List.getElem?_toArray]
 exact dkv_at f hj
theorem FlB.frozen{w u:World}{b:Nat}{f:Int→Int}(h:FlB w b f u)(j:Nat):u.frozen? ⟨b,j,H⟩=false:=frozen_of_row _ _ _ _ _ h.1
theorem FlB.on{w u u':World}{b:Nat}{f:Int→Int}(h:FlB w b f u)(hb:Below u.heap.size u u'):FlB w b f u':=⟨Sg.keepB h.1 hb,bel_on' h.2 hb⟩
theorem FlB.put{w u:World}{b:Nat}{f:Int→Int}{j:Nat}(h:FlB w b (fillT f j) u)(hj:j<1000)(hb:w.heap.size≤b):FlB w b (fillT f (j+1)) (u.setCell ⟨b,j,H⟩ (.int S (f j))):=by
 refine⟨?_,h.2.setCell hb _⟩
 rw[heap_setCell_same _ _ _ _ _ _ h.1,←dkv_put f hj,List.setIfInBounds_toArray]
set_option maxHeartbeats 1000000 in
theorem dall_gen(w:World)(pv:Option Addr)(f:Int→Int)(ST:Hid (∀(u:World)(j:Nat),j<1000→Below w.heap.size w u→Calls Tryz.prog 41 #[.pointer pv,.int S (j:Int)] u fun e w'=>e=G (.int S (f j))∧Below u.heap.size u w')):
 Calls Tryz.prog 127 #[.pointer pv] w fun e w'=>e=G (.func (.func 171) #[] #[.pointer (V ⟨w.heap.size,0,H⟩)])∧FlB w w.heap.size f w':=by
 have h0:FlB w w.heap.size (fillT f 0) (w.alloc (.cells (dkv 1000 (fillT f 0)).toArray 163)):=⟨zI _ _,(Below.refl _ _).alloc (zD _) _⟩
 have HE:=hide (dkv_all 1000 f)
 have hz:=dkv_new 1000 f
 have PU:Hid (∀(u:World)(j:Nat),FlB w w.heap.size (fillT f j) u→j<1000→FlB w w.heap.size (fillT f (j+1)) (u.setCell ⟨w.heap.size,j,H⟩ (.int S (f j)))):=fun u j h hj=>h.put hj (zD _)
 have H0:=hide h0
 clear h0
 go_enter Tryz.func127,Tryz.ntmps127
 go_wp2_with(refine wpList_alloc_thousand rfl rfl hz ?_)
 generalize w.alloc (.cells (dkv 1000 (fillT f 0)).toArray 163)=W0 at H0 ⊢
 clear hz
 go_loopw [5] (fun i wr=>∃j:Nat,i= .int S j∧j≤1000∧Hid (FlB w w.heap.size (fillT f j) wr)) (fun i _=>1000-(Go.RowKit.intOf i).toNat)
 case atStart=>exact⟨0,rfl,Nat.zero_le _,H0⟩
 case round=>
  obtain⟨j,rfl,hj,HF⟩:=hrel;clear H0;by_cases hlt:j<1000
  ·have ql:(j:Int)<1000:=by omega
   have SJ:=ST.out wr j hlt HF.out.2
   obtain⟨s,hs⟩:∃s,f j=s:=⟨_,rfl⟩
   have HS:=hide hs
   rw[hs]at SJ;clear hs
   go_wp2_with(go_at_call 41;refine SJ.mono ?_;clear SJ;rintro e u ⟨rfl,hb⟩;have hF2:=HF.out.on hb;have c0:=hF2.cell hlt;have f0:=hF2.frozen j;have HF2:=hide hF2;clear hF2 hb HF)
   have HF3:=hide (PU.out _ _ HF2.out hlt)
   rw[HS.out]at HF3;go_roundw
   case rel=>exact⟨j+1,by go_num,by omega,HF3⟩
   case measure=>simp[Go.RowKit.intOf];omega
  ·have ql:¬(j:Int)<1000:=by omega
   obtain rfl:j=1000:=by omega
   go_wp2
   go_ret
   refine⟨rfl,?_,HF.out.2⟩;rw[←HE.out];exact HF.out.1
section
variable {w0 w:World}{O:Pt→Nat→Prop}{d p m n:Nat}{v:Ch}{R:Int→Bool}
theorem dall_any(k:Dk w0 O w d p m n v R):Calls Tryz.prog 127 #[.pointer (V ⟨d,0,H⟩)] w fun e w'=>e=G (.func (.func 171) #[] #[.pointer (V ⟨w.heap.size,0,H⟩)])∧FlB w w.heap.size (stD v R) w':=
 dall_gen w _ _ (fun u j hj hu=>dstatus_any (k.on hu) (wf_of (by omega) (by omega)))
end
def encD(x:Int×Int):Array Value:=#[.int S x.1,.int S x.2]
theorem load_stand{w:World}{b:Nat}{f:Int→Int}(hb:w.heap[b]?=V (.cells (dkv 1000 f).toArray 163 (0,0))):(Instr.loadAt 163 (.pointer (V ⟨b,0,H⟩))).run Tryz.prog w= .ok (.agg (dkv 1000 f).toArray) w:=by
 have hl:(loadCells ⟨b,0,H⟩ 1000).run Tryz.prog w= .ok (dkv 1000 f).toArray w:=by
  have:=run_loadCells_list (P:=Tryz.prog) (w:=w) ⟨b,0,H⟩ (dkv 1000 f) (fun j v hj=>by
   rw[st_add',cell_of hb,List.getElem?_toArray,Nat.zero_add];exact hj)
  rwa [dkv_len]at this
 generalize (dkv 1000 f).toArray =cs at hl
 have e:∀n:Nat,(loadCells ⟨b,0,H⟩ n).run Tryz.prog w= .ok cs w→(sizeOf 163).run Tryz.prog w= .ok n w→(loadVar 163 ⟨b,0,H⟩).run Tryz.prog w= .ok (.agg cs) w:=fun n h1 h2=>by
  simp[loadVar,Tryz.isAgg163,h2,h1,Result.andThen]
 have e2:=e 1000 hl (Tryz.sizeOf163 w)
 simp[Instr.loadAt,Instr.sureAddr,e2]
theorem index_stand(f:Int→Int){i:Nat}(hi:i<1000)(w:World):(Instr.index 163 (.agg (dkv 1000 f).toArray) (.int S i)).run Tryz.prog w= .ok (.int S (f i)) w:=by
 have hc:(dkv 1000 f).toArray[i]?=V (.int S (f i)):=by rw[List.getElem?_toArray];exact dkv_at f hi
 generalize (dkv 1000 f).toArray =cs at hc
 simp[Instr.index,asIntOf,run_underlying Tryz.underlying163,part,Tryz.isAgg3,Tryz.sizeOf3,hc,Result.andThen]
 intro h3
 omega
theorem wpListIn_load_thousand{F:Fence}{nF:Nat}{w:World}{ops:Array Oper}{rest:List Oper}{o:Oper}{a:Act}{Q:Exit→Act→World→Prop}(hg:o.guard=H)(x:Operand)(hop:o.op=Op.load 163 x)(b:Nat)(hx:a.eval x= .pointer (V ⟨b,0,H⟩)){cs:Array Value}
 (hrun:(Instr.loadAt 163 (.pointer (V ⟨b,0,H⟩))).run Tryz.prog w= .ok (.agg cs) w) (hK:wpListIn F nF Tryz.prog ops Q rest (a.put o.dst (.agg cs)) w):wpListIn F nF Tryz.prog ops Q (o::rest) a w:=by
 refine wpListIn_plain hg fun K' hK'=>?_
 unfold Oper.wpIn
 refine⟨by simp[Oper.about,hop],?_⟩
 rw[Oper.semAt_plain F _ _ (by rw[hop];intro c hc';cases hc')]
 simp[execOp,hop,hx,hrun,Result.andThen]
 exact hK' _ _ hK
set_option maxRecDepth 100000 in
set_option maxHeartbeats 2000000 in
theorem dall_seq{F:Nat→Obj→Prop}{w:World}{Bi:Nat}{f:Int→Int}(hbi:w.heap[Bi]?=V (.cells (dkv 1000 f).toArray 163 (0,0))):
 Rg2.SeqA Tryz.prog F 171 #[.pointer (V ⟨Bi,0,H⟩)] encD (allF f 1000) w:=by
 intro l J Jx W hW hwl hlW hJ hJx hY h0
 have hb:=(hW.block _ (Array.getElem?_eq_some_iff.1 hbi).1).trans hbi
 have hld:=load_stand hb
 have HIX:Hid (∀(i:Nat),i<1000→∀U:World,(Instr.index 163 (.agg (dkv 1000 f).toArray) (.int S i)).run Tryz.prog U= .ok (.int S (f i)) U):=fun i hi U=>index_stand f hi U
 generalize (dkv 1000 f).toArray =cs at hld HIX
 refine callsIn_wide.2 ((callsIn_wide (n:=5)).1 ?_)
 have HY:Hid (∀pre x W1,J pre W1→pre++ [x]<+:allF f 1000→YieldAt Fence.wide 4 Tryz.prog l (encD x) W1 fun e W'=>Rg.Kept (fun k o=>F k o∨k=l) W1 W'∧((e=G (.bool true)∧J (pre++ [x]) W')∨(e=G (.bool false)∧Jx (pre++ [x]) W'))):=fun pre x W1 h1 h2=>Rg.yield_any0 (hY pre x W1 h1 h2)
 have HJ0:=hide h0
 clear hY hJ hJx h0 hW hb hbi
 have hnf:∀u:World,(binOp BinOp.eql 191 (.func (.yield l) #[] #[]) .nilFunc).run Tryz.prog u= .ok (.bool false) u:=fun _=>by kernel_rfl
 refine callsIn_of_wp Tryz.func171 rfl trivial ?_ rfl
 simp only[Tryz.ntmps171,List.size_toArray,List.length_cons,List.length_nil,Nat.reduceAdd,Nat.reduceSub,Array.replicate_succ,Array.replicate_zero,List.push_toArray,List.append_toArray,List.nil_append,List.cons_append]
 gi_wp2_with (refine wpListIn_load_thousand rfl _ rfl Bi rfl hld ?_)
 clear hld
 gi_loopw [8] (fun i wr=>∃j:Nat,i= .int S j∧j≤1000∧Hid (J (allF f j) wr)) (fun i _=>1000-(Go.RowKit.intOf i).toNat)
 case atStart=>exact⟨0,rfl,Nat.zero_le _,HJ0⟩
 case round=>
  obtain⟨j,rfl,hj,HJ⟩:=hrel;clear HJ0;by_cases hlt:j<1000
  ·have hx:=HIX.out j hlt wr
   have ql:(j:Int)<1000:=by omega
   have hS:=allF_succ f j
   by_cases hz:f j=0
   ·rw[if_pos hz,List.append_nil]at hS;have HS:=hide hS
    rw[hz]at hx;clear hS hz
    gi_wp2
    refine⟨fun f hf=>(by cases hf),?_⟩
    gi_wp2
    go_roundw
    case rel=>exact⟨j+1,by go_num,by omega,by rw[HS.out];exact HJ⟩
    case measure=>simp[Go.RowKit.intOf];omega
   ·rw[if_neg hz]at hS;have hpre:allF f j++ [((j:Int),f j)]<+:allF f 1000:=by rw[←hS];exact allF_pre f (by omega)
    obtain⟨fn,tmps,assign,body,hy,hR⟩:=HY.out (allF f j) ((j:Int),f j) wr HJ.out hpre;rw[←hS]at hR;have HPR:Hid (allF f (j+1)≠[]∧allF f (j+1)<+:allF f 1000):=⟨by rw[hS];simp,allF_pre f (by omega)⟩
    obtain⟨s,hs⟩:∃s,f j=s:=⟨_,rfl⟩
    rw[hs]at hx hz hy;have hzb:(s != 0)=true:=by simpa using hz
    clear hpre hS hs hz;dsimp only[encD]at hy
    gi_wp2
    refine hR.mono ?_;rintro e W3 ⟨hk3,(⟨rfl,hJ3⟩|⟨rfl,hJ3⟩)⟩
    ·have HJ3:=hide hJ3
     clear hJ3 hk3 hR
     gi_wp2
     go_roundw
     case rel=>exact⟨j+1,by go_num,by omega,HJ3⟩
     case measure=>simp[Go.RowKit.intOf];omega
    ·have HJ3:=hide hJ3
     clear hJ3 hk3 hR
     gi_wp2
     refine bodyPost_ret (results_none rfl _ _ _) rfl ?_;exact⟨⟨_,rfl⟩,.inr ⟨_,HPR.out.1,HPR.out.2,HJ3.out⟩⟩
  ·have ql:¬(j:Int)<1000:=by omega
   obtain rfl:j=1000:=by omega
   gi_wp2
   go_end0
   exact⟨⟨_,rfl⟩,.inl HJ.out⟩
attribute [local go_sem] Oper.semAt_some
theorem dk_stay{W W':World}{row:Option Nat}{X:Nat}(hg:W.grownBy W' row)(hr:∀r,row=V r→X≤r∧∃o:Obj,W.heap[r]?=V o∧o.isCells=false){k:Nat}{cs:Array Value}{t:TypeId}{f:Nat×Nat}(h:W.heap[k]?=V (.cells cs t f)):W'.heap[k]?=W.heap[k]?:=
 hg.block k (Array.getElem?_eq_some_iff.1 h).1 (fun e=>by
  obtain⟨_,o,ho,hc⟩:=hr k e.symm;rw[h]at ho;cases ho;cases hc)
theorem opn_len(v:Ch)(l:List (Int×Int)):opnD v l≤l.length:=List.length_filter_le _ _
def OI(v:Ch)(w:World)(d:Option Addr)(pre:List (Int×Int))(W:World):Prop:=
 Boxed W w.heap.size 73 (.pointer d)∧Boxed W (w.heap.size+1) 3 (.int S (opnD v pre:Nat))∧Below w.heap.size w W∧w.heap.size+2≤W.heap.size
theorem OI.own{v:Ch}{w:World}{d:Option Addr}{X:Nat}(hX:w.heap.size≤X):OwnFrom X (OI v w d):=fun pre W W' row hs hg hr=>by
 obtain⟨h1,h3,h6,h7⟩:=hs
 refine⟨(dk_stay hg hr h1).trans h1,(dk_stay hg hr h3).trans h3,?_,zK h7 hg.size⟩
 exact h6.grown hg h6.size (fun k e=>zK hX (hr k e).1)
theorem OI.on{v:Ch}{w W W':World}{d:Option Addr}{pre:List (Int×Int)}(h:OI v w d pre W)(hb:Below W.heap.size W W'):OI v w d pre W':=
 ⟨Sg.keepB h.1 hb,Sg.keepB h.2.1 hb,bel_on' h.2.2.1 hb,zK h.2.2.2 hb.size⟩
theorem OI.no{v:Ch}{w W:World}{d:Option Addr}{pre:List (Int×Int)}{x:Int×Int}(h:OI v w d pre W)(hx:opn1 v x=false):OI v w d (pre++ [x]) W:=by
 refine⟨h.1,?_,h.2.2⟩
 rw[opnD_snoc,hx]
 exact h.2.1
theorem OI.yes{v:Ch}{w W:World}{d:Option Addr}{pre:List (Int×Int)}{x:Int×Int}(h:OI v w d pre W)(hx:opn1 v x=true){n:Int}(hn:n=((opnD v pre:Nat):Int)+1):OI v w d (pre++ [x]) (W.setCell ⟨w.heap.size+1,0,H⟩ (.int S n)):=by
 subst hn
 refine⟨?_,?_,h.2.2.1.setCell (by show w.heap.size≤w.heap.size+1;omega) _,by simpa using h.2.2.2⟩
 ·exact(Below.heap_setCell _ _ _ _ (show w.heap.size≠w.heap.size+1 by omega)).trans h.1
 ·rw[opnD_snoc,hx];exact h.2.1.set _
def OF(w:World)(d:Option Addr)(Bi:Nat)(x:Int×Int):Act:=
 {tmps:=#[.pointer d,.pointer (V ⟨w.heap.size,0,H⟩),.int S 0,.pointer (V ⟨w.heap.size+1,0,H⟩),.int S x.1,.int S x.2,undef,undef,undef,.pointer d,.func (.func 171) #[] #[.pointer (V ⟨Bi,0,H⟩)],.int S x.1,.int S x.2,undef,undef,undef,undef,undef,undef,undef,undef,undef,undef,undef,undef,undef,undef,undef,undef,undef,undef,undef,undef,undef],defers:=[]}
set_option maxRecDepth 100000 in
set_option maxHeartbeats 4000000 in
theorem dopen_gen(w:World)(pv:Option Addr)(v:Ch)(f:Int→Int)
 (HA:Hid (∀U:World,Below w.heap.size w U→Calls Tryz.prog 127 #[.pointer pv] U fun e w'=>e=G (.func (.func 171) #[] #[.pointer (V ⟨U.heap.size,0,H⟩)])∧FlB U U.heap.size f w'))
 (HX:Hid (∀x∈allF f 1000,∃d p,pv=V ⟨d,0,H⟩∧((lkD v x.1).o.steps.length ≤3)∧∀W:World,Below w.heap.size w W→W.cell? ⟨d,0,H⟩=V (.pointer (V ⟨p,0,H⟩))∧Calls Tryz.prog 33 #[.pointer (V ⟨p,0,H⟩),.int S x.1] W (FactR (lkD v x.1) (v.L x.1).isSome W))):
 Calls Tryz.prog 47 #[.pointer pv] w fun e w'=>e=G (.int S (opnD v (allF f 1000):Nat))∧Below w.heap.size w w':=by
 refine(callsIn_wide (n:=5)).1 ?_
 obtain⟨U,hU⟩:∃U,U=(w.alloc (.cells #[.pointer pv] 73)).alloc (.cells #[.int S 0] 3):=⟨_,rfl⟩
 have hbU:Below w.heap.size w U:=by rw[hU];exact((Below.refl _ _).alloc (zD _) _).alloc (by simp) _
 have hsz:U.heap.size=w.heap.size+2:=by rw[hU];simp
 have hbn:Boxed U w.heap.size 73 (.pointer pv):=by rw[hU];exact(Below.heap_alloc _ _ _ (by simp)).trans (zI w _)
 have hbl:Boxed U (w.heap.size+1) 3 (.int S 0):=by
  have h2:=zI (w.alloc (.cells #[.pointer pv] 73)) (.cells #[.int S 0] 3)
  rw[World.size_alloc]at h2;rw[hU];exact h2
 have HAU:=(callsIn_wide (n:=4)).2 (HA.out U hbU)
 have HUW:=hide hU
 rw[hU]at HAU
 clear hU HA
 have hnf:∀(u:World)(b:Nat),(binOp BinOp.eql 156 (.func (.func 171) #[] #[.pointer (V ⟨b,0,H⟩)]) .nilFunc).run Tryz.prog u= .ok (.bool false) u:=fun _ _=>by kernel_rfl
 refine callsIn_of_wp_marks Tryz.func47 rfl trivial ?_ rfl
 simp only[Tryz.ntmps47,List.size_toArray,List.length_cons,List.length_nil,Nat.reduceAdd,Nat.reduceSub,Array.replicate_succ,Array.replicate_zero,List.push_toArray,List.append_toArray,List.nil_append,List.cons_append]
 gi_wp2_with fail
 refine⟨trivial,HAU.mono ?_⟩
 rintro e w1 ⟨rfl,hFl⟩
 rw[←HUW.out]at hFl
 clear HAU
 obtain⟨hbx,hb⟩:=hFl
 have hB1:Below w.heap.size w w1:=bel_on' hbU hb
 have hN1:w.heap.size+2≤w1.heap.size:=by have:=hb.size;omega
 have h0:OI v w pv [] w1:=⟨Sg.keepB hbn hb,Sg.keepB hbl hb,hB1,hN1⟩
 have ES:=dall_seq (F:=fun k _=>k=w.heap.size+1) hbx
 rw[←HUW.out]
 obtain⟨Bi,hBi⟩:∃Bi,U.heap.size=Bi:=⟨_,rfl⟩
 rw[hBi]at ES ⊢
 clear hbl hbn hb hbU hbx hsz hBi
 gi_wp2_with fail
 refine Rg2.range_acts (E:=fun k _=>k=w.heap.size+1) (enc:=encD) (L:=allF f 1000) (I:=OI v w pv) (Ix:=fun _ _ _=>False) (Ax:=fun x a' _=>a'=OF w pv Bi x)
  (gf:=171) (lb:=#[.pointer (V ⟨Bi,0,H⟩)]) rfl (enters_of Tryz.func171 (by kernel_rfl) rfl) ES (fun k o h1 h2 h3=>by omega) (fun _=>rfl)
  (OI.own (by omega)) (fun c' W0 W W' row hs hg hr=>hs) (fun x a'=>?ax) h0 ?assign ?body ?done ?stop
 case ax=>
  rintro _ W W' row hs hg hr;exact hs
 case assign=>
  intro l pre x W K hI hK;obtain⟨x0,x1⟩:=x;have HK:=hK (OF w pv Bi (x0,x1)) _ (Rg.Kept.refl _ _) hI rfl
  clear hK;unfold OF at HK;unfold encD;dsimp only at HK ⊢
  gi_wp2
  exact HK
 case body=>
  rintro l pre ⟨x0,x1⟩ a' W hI rfl hpq;have hx:(x0,x1)∈allF f 1000:=by
   obtain⟨r,hr⟩:=hpq;rw[←hr];simp
  obtain⟨d,p,rfl,hL3,hW⟩:=HX.out _ hx;have hlen:opnD v pre≤1000:=by
   have h1:=opn_len v pre
   have h2:=allF_len f 1000
   have h3:pre.length≤(allF f 1000).length :=((List.prefix_append pre [(x0,x1)]).trans hpq).length_le
   omega
  obtain⟨c0,FX⟩:=hW W hI.2.2.1;dsimp only at FX hL3;have c1:=hI.1.cell
  have HI:=hide hI
  have HL3:=hide hL3
  clear hL3 hW;obtain⟨l0,hl0⟩:∃l0,lkD v x0=l0:=⟨_,rfl⟩
  have HOP:Hid (opn1 v (x0,x1)=(x1 != 8&& !overF l0.o l0.f)):=by rw[←hl0];rfl
  rw[hl0]at FX HL3;clear hl0 hI hpq hx;generalize (v.L x0).isSome =is at *;unfold OF;dsimp only
  gi_wp2_with fail
  refine⟨trivial,rfl,(CallsIn.inRound l (callsIn_wide.2 FX)).mono ?_⟩;rintro e u1 ⟨sa,sc,da,dc,ua,uc,rfl,hS,hF,hb⟩;clear FX c0 c1;have h4:Below u1.heap.size u1 ((u1.alloc (.cells #[.int S l0.o.id,.int S l0.o.item,.int S l0.o.qty,.int S l0.o.client,.int S l0.o.price,.slice sa l0.o.steps.length sc] 32)).alloc (.cells #[.slice da l0.f.dn.length dc,.slice ua l0.f.un.length uc,.bool l0.f.asked,.bool l0.f.yes,.bool l0.f.turned,.bool l0.f.k0,.bool l0.f.k1,.bool l0.f.ship,.bool l0.f.d0,.bool l0.f.d1,.bool l0.f.acc] 68)):=((Below.refl _ _).alloc (zD _) _).alloc (by simp) _
  have OV:=sover_any l0.o sa sc l0.f da dc ua uc _ (hS.below h4) (by have:=HL3.out;omega) (hF.below h4)
  have HI2:=hide (HI.out.on (bel_on' hb h4))
  have HKP:=hide ((zE (E:=fun k _=>k=w.heap.size+1) hb).trans (zE h4))
  clear hb h4 hS hF;by_cases h8:x1=8
  ·subst h8
   gi_wp2
   refine⟨trivial,?_⟩
   gi_wp2
   exact⟨HKP.out,HI2.out.no (by rw[HOP.out];rfl)⟩
  ·have q8:(x1 != 8)=true:=by simpa using h8
   have HQ:=hide q8
   cases hov:overF l0.o l0.f;all_goals rw[hov]at OV
   all_goals rw[hov,q8]at HOP
   ·gi_wp2_with fail
    refine⟨trivial,rfl,(CallsIn.inRound l (callsIn_wide.2 OV)).mono ?_⟩;rintro e u2 ⟨rfl,hb2⟩;have hI3:=HI2.out.on hb2
    have HK3:=hide (HKP.out.trans (zE hb2))
    have c3:=hI3.2.1.cell
    have f3:=hI3.2.1.frozen
    have HI3:=hide hI3
    clear hI3 hb2
    gi_wp2
    exact⟨HK3.out.trans (Rg.Kept.setCell _ (fun _=>rfl)),HI3.out.yes HOP.out (by go_num)⟩
   ·gi_wp2_with fail
    refine⟨trivial,rfl,(CallsIn.inRound l (callsIn_wide.2 OV)).mono ?_⟩;rintro e u2 ⟨rfl,hb2⟩;have HI3:=hide (HI2.out.on hb2)
    have HK3:=hide (HKP.out.trans (zE hb2))
    clear hb2
    gi_wp2
    exact⟨HK3.out,HI3.out.no HOP.out⟩
 case done=>
  rintro D W hD hI hK;have c3:=hI.2.1.cell
  have HBW:=hide hI.2.2.1
  gi_wp2
  refine⟨by simp,.inl ⟨_,_,rfl,run_takeDeferred hK,?_⟩⟩;refine⟨_,results_tmp rfl _ _ _,rfl,?_⟩;exact HBW.out.trans ⟨rfl,rfl,rfl,by simp,fun k hk=>World.putObj_heap_other (by omega)⟩
 case stop=>exact fun D c pre W _ _ _ h _=>h.elim
section
variable {w0 w:World}{O:Pt→Nat→Prop}{d p m n:Nat}{v:Ch}{R:Int→Bool}
theorem dopen_any(k:Dk w0 O w d p m n v R):Calls Tryz.prog 47 #[.pointer (V ⟨d,0,H⟩)] w fun e w'=>e=G (.int S (opnD v (allF (stD v R) 1000):Nat))∧Below w.heap.size w w':=by
 refine dopen_gen w _ v _ (fun U hU=>dall_any (k.on hU)) (fun x hx=>⟨d,p,rfl,(k.1.three _).1,fun W hW=>⟨(k.2.on hW).c0.1,(k.1.on hW).facts ?_⟩⟩)
 obtain⟨i,hi,rfl,-⟩:=allF_mem hx
 exact wf_of (by omega) (by omega)
end
end Go.Proofs.YthfgmpooehkhgaaGreatDoor
namespace Go.Proofs.YthfgmpooehkhgaaGreatDoor.Dq
open Go.ChangeShapes Go.WideShapes Go.ChangeAt Go.RowKit Go.Shelf Go.Maps Sg Bl
attribute [local go_sem] Oper.semAt_some
section
variable {w0 w:World}{O:Pt→Nat→Prop}{d p m n:Nat}{v:Ch}{R:Int→Bool}
end
end Go.Proofs.YthfgmpooehkhgaaGreatDoor.Dq
namespace Go.Proofs.YthfgmpooehkhgaaGreatDoor
open Go.ChangeShapes Go.WideShapes Go.ChangeAt Go.RowKit Go.Maps Sg Bl
open Option renaming some→V,none→H
open Go.IntKind renaming i64→S
open Go.Ending renaming returned→G
def Da(w0:World)(O:Pt→Nat→Prop)(w:World)(d p m n:Nat)(v:Ch)(R:Int→Bool):Prop:=Cu w0 O w p v∧DkS w0 O w d p m n R
theorem txB_lit(a b:List UInt8):((txB a).toList ==b)=decide (a=b):=by
 have h:=txB_eq a b
 rw[ByteArray.toList_eq (txB b)]at h
 exact h
section
variable {w0 w w':World}{O O':Pt→Nat→Prop}{d p m n:Nat}{v v':Ch}{R R':Int→Bool}
theorem Da.dk(k:Da w0 O w d p m n v R):Dk w0 O w d p m n v R:=⟨k.1.cx,k.2⟩
theorem Da.on(k:Da w0 O w d p m n v R)(hb:Below w.heap.size w w'):Da w0 O w' d p m n v R:=⟨k.1.on hb,k.2.on hb⟩
theorem Da.chief(k:Da w0 O w d p m n v R):Calls Tryz.prog 38 #[.pointer (V ⟨d,0,H⟩)] w fun e w'=>e=G (.pointer (V ⟨p,0,H⟩))∧w=w':=dchief_any k.2
theorem Da.status(k:Da w0 O w d p m n v R){id:Int}(hw:(Lit.int S id).wf =true){s:Int}(hs:stD v R id=s):
 Calls Tryz.prog 41 #[.pointer (V ⟨d,0,H⟩),.int S id] w fun e w'=>e=G (.int S s)∧Below w.heap.size w w':=by
 subst hs
 exact dstatus_any k.dk hw
theorem Da.tell(hg:Gl w0)(k:Da w0 O w d p m n v R){id:Int}(hw:(Lit.int S id).wf =true){s:List UInt8}(hs:telL v R id=s):
 Calls Tryz.prog 43 #[.pointer (V ⟨d,0,H⟩),.int S id] w fun e w'=>e=G (.string (txB s))∧Below w.heap.size w w':=by
 subst hs
 exact dtell_any hg k.dk hw
theorem Da.openN(k:Da w0 O w d p m n v R){b:Nat}(hs:opnD v (allF (stD v R) 1000)=b):
 Calls Tryz.prog 47 #[.pointer (V ⟨d,0,H⟩)] w fun e w'=>e=G (.int S (b:Nat))∧Below w.heap.size w w':=by
 subst hs
 exact dopen_any k.dk
theorem Da.handle(hg:Gl w0)(k:Da w0 O w d p m n v R)(x:Mg)(hw:(Lit.int S x.id).wf =true)(hv:(hdSA v x).1 =v'):
 Calls Tryz.prog 24 #[.pointer (V ⟨p,0,H⟩),.agg #[.int S x.k,.int S x.fr,.int S x.to,.int S x.id,.int S x.st,.int S x.a,.int S x.b]] w fun e w'=>∃a c O',e=G (.slice a (hdSA v x).2.length c)∧AnC w' O' a c (hdSA v x).2 ∧Da w0 O' w' d p m n v' R∧Go_ O w O' w':=by
 refine(k.1.handle hg x hw hv rfl).mono ?_
 rintro e w' ⟨a,c,O',h1,h2,h3,h4⟩
 exact⟨a,c,O',h1,h2,⟨h3,k.2.step h4⟩,h4⟩
theorem Da.new(hb:Below w0.heap.size w0 w)(x y z:Int):
 Calls Tryz.prog 36 #[.int S x,.int S y,.int S z] w fun e w'=>∃d p m O,e=G (.pointer (V ⟨d,0,H⟩))∧Da w0 O w' d p m 0 (newCh x y z) (fun _=>false)∧Below w.heap.size w w'∧(∀i,Eo O i→w.heap.size≤i)∧w.heap.size≤m:=by
 refine(dnew_any hb x y z).mono ?_
 rintro e w' ⟨d,p,m,O,h1,h2,h3,h4,h5,h6,h7⟩
 exact⟨d,p,m,O,h1,⟨h2,h3⟩,h4,h5,h7⟩
theorem Da.submit(hg:Gl w0)(k:Da w0 O w d p m n v R)(hn:n<1000000)(o:Od){sa:Option Addr}{sc:Nat}(hs:Sts w sa o.steps)(hsl:o.steps.length≤9223372036854775807)(hw:(Lit.int S o.id).wf =true){e0:Int}(he:begE v o=e0)(hv:begS v o=v')(hR:subR R e0 o.id=R'){xs:List Mg}(hx:begA v o=xs):
 Calls Tryz.prog 39 #[.pointer (V ⟨d,0,H⟩),.agg #[.int S o.id,.int S o.item,.int S o.qty,.int S o.client,.int S o.price,.slice sa o.steps.length sc]] w fun e w'=>∃a c O',e=G (.tuple #[.slice a xs.length c,.int S e0])∧AnC w' O' a c xs∧Da w0 O' w' d p m (n+1) v' R'∧GoD O m w O' w':=by
 subst he hv hR hx
 refine(dsub_any hg k.1 k.2 hn o hs hsl hw).mono ?_
 rintro e w' ⟨a,c,O',h1,h2,h3,h4,h5⟩
 exact⟨a,c,O',h1,h2,⟨h3,h4⟩,h5⟩
end
def dwA:Od:=⟨7,0,1,0,1,[(6,1)]⟩
def dwB:Od:=⟨8,0,0,0,0,[]⟩
def dwV:Ch:=begS (newCh 5 50 3) dwA
def dwR:Int→Bool:=subR (subR (fun _=>false) 0 7) 1 8
theorem dw_1:begE (newCh 5 50 3) dwA=0:=by kernel_rfl
theorem dw_2:begE dwV dwB=1:=by kernel_rfl
theorem dw_3:begS dwV dwB=dwV:=by unfold begS;rw[dw_2,if_neg (by decide)]
theorem dw_4:begA dwV dwB= []:=by unfold begA;rw[dw_2,if_neg (by decide)]
theorem dw_t:telL dwV dwR 7= [55,58,32,102,111,114,119,97,114,100,32,48,47,49]:=by kernel_rfl
theorem dw_s:stD dwV dwR 8=8:=by kernel_rfl
theorem dw_o:opnD dwV (allF (stD dwV dwR) 1000)=1:=by kernel_rfl
set_option maxRecDepth 100000 in
set_option maxHeartbeats 2000000 in
theorem dwake_any(w:World)(hg:Gl w):Calls Tryz.prog 35 #[] w fun e w'=>e=G (.bool true)∧Below w.heap.size w w':=by
 have N:=Da.new (w0:=w) (Below.refl _ _) 5 50 3
 have A1:=dw_1
 have A2:=dw_2
 have A3:=dw_3
 have A4:=dw_4
 have A5:=dw_t
 have A6:=dw_s
 have A7:=dw_o
 have hq:((txB [55,58,32,102,111,114,119,97,114,100,32,48,47,49]).toList == [55,58,32,102,111,114,119,97,114,100,32,48,47,49])=true:=by rw[txB_lit];rfl
 have hV:begS (newCh 5 50 3) dwA=dwV:=rfl
 have S1:Hid (∀u d p m O,Da w O u d p m 0 (newCh 5 50 3) (fun _=>false)→Calls Tryz.prog 39 #[.pointer (V ⟨d,0,H⟩),.agg #[.int S 7,.int S 0,.int S 1,.int S 0,.int S 1,.slice (V ⟨u.heap.size,0,H⟩) 1 1]] (u.alloc (.cells #[.int S 6,.int S 1] 107)) fun e w'=>∃y O',e=G (.tuple #[y,.int S 0])∧Da w O' w' d p m 1 dwV (subR (fun _=>false) 0 7)):=fun u d p m O k=>by
  have hr:(u.alloc (.cells #[.int S 6,.int S 1] 107)).heap[u.heap.size]?=V (.cells #[.int S 6,.int S 1] 107 (0,0)):=World.alloc_heap_new u _
  have hst:Sts (u.alloc (.cells #[.int S 6,.int S 1] 107)) (V ⟨u.heap.size,0,H⟩) dwA.steps:= .inr ⟨_,_,rfl,fun i hi=>by
   have e:i=0:=by simp[dwA]at hi;omega
   subst e;exact⟨by rw[cell_of hr];rfl,by rw[cell_of hr];rfl⟩⟩
  refine((k.on ((Below.refl _ _).alloc (Nat.le_refl _) _)).submit hg (by decide) dwA (sc:=1) hst (by decide) (by decide) A1 hV rfl rfl).mono ?_;rintro e w' ⟨a,c,O',h1,h2,h3,h4⟩;exact⟨_,O',h1,h3⟩
 have S2:Hid (∀u d p m O,Da w O u d p m 1 dwV (subR (fun _=>false) 0 7)→Calls Tryz.prog 39 #[.pointer (V ⟨d,0,H⟩),.agg #[.int S 8,.int S 0,.int S 0,.int S 0,.int S 0,.slice H 0 0]] u fun e w'=>∃y O',e=G (.tuple #[y,.int S 1])∧Da w O' w' d p m 2 dwV dwR):=fun u d p m O k=>by
  refine(k.submit hg (by decide) dwB (sa:=H) (sc:=0) (.inl rfl) (by decide) (by decide) A2 A3 rfl A4).mono ?_;rintro e w' ⟨a,c,O',h1,h2,h3,h4⟩;exact⟨_,O',h1,h3⟩
 have S3:Hid (∀u d p m O,Da w O u d p m 2 dwV dwR→Below w.heap.size w u∧(∀u',Below u.heap.size u u'→Calls Tryz.prog 43 #[.pointer (V ⟨d,0,H⟩),.int S 7] u' fun e w'=>e=G (.string (txB [55,58,32,102,111,114,119,97,114,100,32,48,47,49]))∧Below u.heap.size u w')∧(∀u',Below u.heap.size u u'→Calls Tryz.prog 41 #[.pointer (V ⟨d,0,H⟩),.int S 8] u' fun e w'=>e=G (.int S 8)∧Below u.heap.size u w')∧(∀u',Below u.heap.size u u'→Calls Tryz.prog 47 #[.pointer (V ⟨d,0,H⟩)] u' fun e w'=>e=G (.int S 1)∧Below u.heap.size u w')):=fun u d p m O k=>
  ⟨k.1.2,fun u' h=>((k.on h).tell hg (by decide) A5).mono (fun _ _ ⟨e1,e2⟩=>⟨e1,bel_on' h e2⟩),fun u' h=>((k.on h).status (by decide) A6).mono (fun _ _ ⟨e1,e2⟩=>⟨e1,bel_on' h e2⟩),fun u' h=>((k.on h).openN A7).mono (fun _ _ ⟨e1,e2⟩=>⟨e1,bel_on' h e2⟩)⟩
 clear A1 A2 A3 A4 A5 A6 A7 hg hV
 generalize newCh 5 50 3=v0 at *
 generalize dwV=v1 at *
 generalize subR (fun _=>false) 0 7=R1 at *
 generalize dwR=R2 at *
 generalize txB [55,58,32,102,111,114,119,97,114,100,32,48,47,49]=T at *
 go_enter Tryz.func35,Tryz.ntmps35
 go_wp2_with(first
  |(go_at_call 36;refine N.mono ?_;clear N;rintro e u1 ⟨d,p,m,O,rfl,h1,-,-,-⟩;have B1:=S1.out u1 d p m O h1;clear h1 S1)
  |(go_at_call 39;refine B1.mono ?_;clear B1;rintro e u2 ⟨y1,O1,rfl,h1⟩;have B2:=S2.out u2 d p m O1 h1;clear h1 S2)
  |(go_at_call 39;refine B2.mono ?_;clear B2;rintro e u3 ⟨y2,O2,rfl,h1⟩;obtain⟨b0,b1,b2,b3⟩:=S3.out u3 d p m O2 h1;have C1:=b1 _ (Below.refl _ _);have C2:=hide b2;have C3:=hide b3;have HB:=hide b0;clear h1 S3 b0 b1 b2 b3)
  |(go_at_call 43;refine C1.mono ?_;clear C1;rintro e u4 ⟨rfl,h1⟩;have D2:=C2.out _ h1;clear h1 C2)
  |(go_at_call 41;refine D2.mono ?_;clear D2;rintro e u5 ⟨rfl,h1⟩;have D3:=C3.out _ h1;clear h1 C3)
  |(go_at_call 47;refine D3.mono ?_;clear D3;rintro e u6 ⟨rfl,h1⟩;have HX:=hide (bel_on' HB.out h1);clear h1))
 go_ret
 exact⟨rfl,HX.out⟩
section
variable {B:Nat}{O:Pt→Nat→Prop}{w w':World}{p:Nat}{v:Ch}{q:Nat}{r:Value}{b bt:Nat}{loc:Int→Option Nat}{Lq:List ByteArray}
theorem CkV.fstep(k:CkV B O w p v q r b bt loc Lq){b':Nat}(hb:w.heap.size≤b'∧b'<w'.heap.size)(hp:w'.heap[p]?=V (.cells #[.int S v.most,.int S v.room,.pointer (V ⟨q,0,H⟩),.map (V b'),.pointer (V ⟨bt,0,H⟩)] 94 (0,0)))
 (hm:Gd.Pu.Pa.Mx ptX Tryz.prog 3 w' b' 999 (fun _=>H)) (ht:Bt B (O .bl) w' bt v.t (fun _=>0) 999) (hk:Rg.Kept (fun i _=>i=p∨O .bl i) w w'):
 CkV B (grO O .mp w w') w' p ⟨v.most,v.room,v.t,v.T,v.su,v.down,noL,fun _=>0⟩ q r b' bt (fun _=>H) Lq:=by
 have hs:=hk.size
 have far:∀ {x:Pt},x≠ .nd →x≠ .bl →∀(i:Nat)(_:Obj),O x i→¬(i=p∨O .bl i):=fun h1 h2 i _ e e2=>e2.elim (fun e2=>h1 (k.dj _ _ _ e (e2▸k.op))) (fun e2=>h2 (k.dj _ _ _ e e2))
 exact⟨gr_bd k.bd k.low hs,gr_dj k.bd k.dj,.inl k.op,hp,k.jr.kept hk (fun o=>far (by intro e;cases e) (by intro e;cases e) q o k.oq) (fun i o e=>far (by intro e;cases e) (by intro e;cases e) i o (k.or i e)),.inl k.oq,fun i e=> .inl (k.or i e),
  bt_wide ht (fun i e=> .inl e) (fun i e=>gr_bd k.bd k.low hs .bl i e),hm,.inr ⟨rfl,hb.1,hb.2⟩,(fun id l e=>by cases e),fun _ _=>rfl⟩
end
def kpC(v:Ch)(stay:Int):Nat:=v.su+min stay.toNat (v.T.length-v.su)
def crC(v:Ch)(stay:Int):Ch:=⟨v.most,v.room,v.t,v.T.take (kpC v stay),v.su,true,noL,fun _=>0⟩
theorem crC_good{v:Ch}(g:GoodCh v)(stay:Int):GoodCh (crC v stay):=by
 have h1:=g.len
 have h2:=g.su
 have hk:kpC v stay≤v.T.length:=by unfold kpC;omega
 have hl:(v.T.take (kpC v stay)).length =kpC v stay:=by rw[List.length_take];omega
 refine⟨g.m1,g.m2,g.r1,g.r2,?_,?_,?_,fun _=>⟨rfl,rfl⟩,(fun e=>by cases e),noL_good,fun id e=>absurd rfl e⟩
 ·show((v.T.take (kpC v stay)).length :Int)≤v.room
  rw[hl];omega
 ·show v.su≤(v.T.take (kpC v stay)).length
  rw[hl];unfold kpC;omega
 ·have h3:=g.ok
  rw[←List.take_append_drop (kpC v stay) v.T]at h3;exact(fits_app.1 h3).1
set_option maxHeartbeats 1000000 in
theorem ccrash_up{B:Nat}{O:Pt→Nat→Prop}{w:World}{p:Nat}{v:Ch}{q:Nat}{r:Value}{b bt:Nat}{loc:Int→Option Nat}(h:Up B O w p v q r b bt loc)(stay torn:Int):
 Calls Tryz.prog 19 #[.pointer (V ⟨p,0,H⟩),.int S stay,.int S torn] w fun e w'=>(∃x,e=G x)∧∃O' r' b',CkV B O' w' p (crC v stay) q r' b' bt (fun _=>H) (crashL (v.T.map lnC) v.su stay torn)∧(∀i,Eo O' i→growE (Eo O) w w' i)∧Rg.Kept (fun i _=>Eo O i) w w':=by
 have j:=h.k.jr
 rw[h.d]at j
 have CR:=crash_up j (by rw[List.length_map];exact h.g.su) stay torn
 obtain⟨-,-,c2,-,-⟩:=h.k.cell3
 have FG:Hid (∀w1 r',Jr B w1 q r' v.room (crashL (v.T.map lnC) v.su stay torn) v.su true→Off q r r' w w1→Calls Tryz.prog 52 #[.pointer (V ⟨p,0,H⟩)] w1 fun e w'=>(∃x,e=G x)∧∃O' r' b',CkV B O' w' p (crC v stay) q r' b' bt (fun _=>H) (crashL (v.T.map lnC) v.su stay torn)∧(∀i,Eo O' i→growE (Eo O) w w' i)∧Rg.Kept (fun i _=>Eo O i) w w'):=fun w1 r' j1 ho=>by
  obtain⟨k1,g1⟩:=h.k.jstep (T':=v.T.take (kpC v stay)) (su':=v.su) (d':=true) j1 ho;refine(cforget_any k1.blk k1.bl (fun e=>by have:=k1.dj _ _ _ e k1.op;cases this)).mono ?_;rintro e w2 ⟨e1,b',hb',hp,hm,ht,hk⟩;have k2:=k1.fstep hb' hp hm ht hk
  have s1:=g1.size
  have s2:=hk.size
  refine⟨e1,_,_,_,k2,fun i e=>?_,(g1.mono (fun i _ e=>⟨_,e⟩)).trans (hk.mono (fun i _ e=>?_))⟩
  ·rcases gr_eo e with e|e
   ·exact(gr_eo e).imp id (fun e=>⟨e.1,by omega⟩)
   ·exact .inr ⟨by omega,e.2⟩
  ·rcases e with rfl|e|⟨e,-⟩
   ·exact⟨_,h.k.op⟩
   ·exact⟨_,e⟩
   ·cases e
 clear j h
 go_enter Tryz.func19,Tryz.ntmps19
 go_wp2_with(first
  |(go_at_call 85;refine CR.mono ?_;clear CR;rintro e w1 ⟨⟨x,rfl⟩,r',h1,h2⟩;have F2:=FG.out w1 r' h1 h2;clear h1 h2 FG)
  |(go_at_call 52;refine F2.mono ?_;clear F2;rintro e w2 ⟨⟨x2,rfl⟩,h1⟩;have HX:=hide h1;clear h1))
 go_end0
 exact⟨⟨_,rfl⟩,HX.out⟩
end Go.Proofs.YthfgmpooehkhgaaGreatDoor
namespace Go.Proofs.YthfgmpooehkhgaaGreatDoor
open Go.RowKit Sg Bl
open Nat renaming le_refl→zD,le_trans→zK
open Option renaming some→V,none→H
theorem only_of:∀ {l:List Int}{k:Int},l.Nodup→(∀x,x∈l↔x=k)→l= [k]
 | [],k,_,h=>absurd ((h k).2 rfl) (by simp)
 |x::r,k,hn,h=>by
  have hx:x=k:=(h x).1 (List.mem_cons_self ..)
  subst hx;cases r with
  |nil=>rfl
  |cons y r=>
   have hy:y=x:=(h y).1 (List.mem_cons_of_mem _ (List.mem_cons_self ..))
   subst hy;exact absurd (List.mem_cons_self ..) (List.nodup_cons.1 hn).1
theorem ids_one{L:Int→Option Lk}{k:Int}{l:Lk}(g:GoodM L)(hk:L k=V l)(ho:∀x,x≠k→L x=H):idsC L= [k]:=by
 refine only_of (idsC_nodup L) (fun x=>(idsC_mem g).trans ⟨fun h=>?_,fun e=>?_⟩)
 ·by_cases e:x=k
  ·exact e
  ·rw[ho x e]at h;cases h
 ·rw[e,hk];rfl
theorem up_one{v:Ch}{o:Od}{l:Lk}(hd:v.down=true)(g:GoodM (runT v.T))(h1:runT v.T o.id=V l)(h2:∀x,x≠o.id→runT v.T x=H):upC v=wkC (rvC v) o.id:=by
 unfold upC
 rw[if_pos hd,ids_one g h1 h2]
 rfl
section
variable {o:Od}{v:Ch}
end
section
variable {o:Od}{T:List Et}
theorem run_snoc(T:List Et)(e:Et):runT (T++ [e])=fol (runT T) e:=by
 unfold runT
 rw[List.foldl_append]
 rfl
theorem run_none:∀(T:List Et)(L:Int→Option Lk)(x:Int),(∀e∈T,e.id≠x)→L x=H→T.foldl fol L x=H
 | [],_,_,_,h=>h
 |e::T,L,x,hT,h=>run_none T (fol L e) x (fun e' he=>hT e' (List.mem_cons_of_mem _ he)) (by
  unfold fol;rw[Gd.updO_other _ _ (fun e2=>hT e (List.mem_cons_self ..) e2.symm)];exact h)
end
section
variable {o:Od}{s:Bool×Bool}{v:Ch}
theorem fol_at{L:Int→Option Lk}{l:Lk}{k:Nat}{n:List Int}{id:Int}(hl:L id=V l)(hk:k≠0):fol L ⟨k,id,n⟩ id=V (folL l k n):=by
 unfold fol
 rw[Gd.updO_same,if_neg hk,hl]
 rfl
end
def dmF(y wh k s acc:Bool):Fa:=⟨[],[],true,y,!y,if wh=true then k else true,if wh=true then true else k,s,!wh,wh,acc⟩
def DmL(y wh:Bool)(l:Lk):Prop:=∃k s yy,(s=true→y=true)∧l=⟨ltO 5,dmF y wh k s false,yy⟩
theorem dm_st(y wh k s:Bool)(h:s=true→y=true):stF (ltO 5) (dmF y wh k s false)=7:=by
 cases s
 ·cases y<;>cases wh<;>cases k<;>kernel_rfl
 ·obtain rfl:=h rfl;cases wh<;>cases k<;>kernel_rfl
theorem dm_acc(y wh k s:Bool)(h:s=true→y=true):stF (ltO 5) (dmF y wh k s true)≠7∧stF (ltO 5) (dmF y wh k s true)≠0:=by
 have h2:∀z:Int,stF (ltO 5) (dmF y wh k s true)=z→z≠7→z≠0→stF (ltO 5) (dmF y wh k s true)≠7∧stF (ltO 5) (dmF y wh k s true)≠0:=by
  rintro z rfl h1 h2;exact⟨h1,h2⟩
 cases s
 ·cases y
  ·cases k
   ·cases wh<;>exact h2 4 (by kernel_rfl) (by decide) (by decide)
   ·cases wh<;>exact h2 6 (by kernel_rfl) (by decide) (by decide)
  ·cases wh<;>cases k<;>exact h2 3 (by kernel_rfl) (by decide) (by decide)
 ·obtain rfl:=h rfl;cases k
  ·cases wh<;>exact h2 3 (by kernel_rfl) (by decide) (by decide)
  ·cases wh<;>exact h2 5 (by kernel_rfl) (by decide) (by decide)
theorem DmL.at_{y wh:Bool}{l:Lk}(h:DmL y wh l):l.o=ltO 5∧l.f.asked=true∧l.dec=true∧l.wt=false∧stF l.o l.f=7∧l.f.yes=y∧l.f.d0= !wh∧l.f.d1=wh:=by
 obtain⟨k,s,yy,hs,rfl⟩:=h
 exact⟨rfl,rfl,by cases y<;>rfl,by cases y<;>rfl,dm_st y wh k s hs,rfl,rfl,rfl⟩
def DmE(y:Bool)(kk:Nat)(ns:List Int):Prop:=(kk=7∧(ns= [1]∨ns= [2]))∨(kk=9∧ns= []∧y=true)
theorem DmL.fol{y wh:Bool}{l:Lk}(h:DmL y wh l){kk:Nat}{ns:List Int}(he:DmE y kk ns):DmL y wh (folL l kk ns):=by
 obtain⟨k,s,yy,hs,rfl⟩:=h
 rcases he with⟨rfl,rfl|rfl⟩|⟨rfl,rfl,rfl⟩
 ·cases wh
  ·exact⟨k,s,yy,hs,by cases k<;>cases s<;>rfl⟩
  ·exact⟨true,s,yy,hs,by cases k<;>cases s<;>rfl⟩
 ·cases wh
  ·exact⟨true,s,yy,hs,by cases k<;>cases s<;>rfl⟩
  ·exact⟨k,s,yy,hs,by cases k<;>cases s<;>rfl⟩
 ·exact⟨k,true,yy,fun _=>rfl,by cases wh<;>cases k<;>cases s<;>rfl⟩
theorem DmE.ne{y:Bool}{kk:Nat}{ns:List Int}(he:DmE y kk ns):kk≠0:=by
 rcases he with⟨rfl,-⟩|⟨rfl,-⟩<;>decide
structure DmI (y wh:Bool) (n:Nat) (v:Ch):Prop where
 d:v.down=false
 r:v.room=4096
 f:4≤v.su
 sl:v.su≤v.T.length
 ln:v.T.length≤n
 p:∀k,4≤k→k≤v.T.length→∃l,runT (v.T.take k) 5=V l∧DmL y wh l
 ei:∀e∈v.T,e.id=5
section
variable {y wh:Bool}{n:Nat}{v:Ch}
theorem DmI.le(h:DmI y wh n v){n':Nat}(hn:n≤n'):DmI y wh n' v:=⟨h.d,h.r,h.f,h.sl,zK h.ln hn,h.p,h.ei⟩
theorem DmI.setH(h:DmI y wh n v)(g:Int→Int):DmI y wh n (Go.Proofs.YthfgmpooehkhgaaGreatDoor.setH v g):=⟨h.d,h.r,h.f,h.sl,h.ln,h.p,h.ei⟩
theorem DmI.at_(g:GoodCh v)(h:DmI y wh n v):∃l,v.L 5=V l∧DmL y wh l:=by
 obtain⟨l,h1,h2⟩:=h.p v.T.length (zK h.f h.sl) (zD _)
 rw[List.take_length]at h1
 rcases core_at (g.up h.d) 5 with⟨_,e⟩|⟨l1,l2,e1,e2,e3,e4⟩
 ·rw[h1]at e;cases e
 ·rw[h1]at e2;cases e2;obtain⟨k,s,yy,hs,rfl⟩:=h2;refine⟨l1,e1,k,s,l1.y,hs,?_⟩;obtain⟨o1,f1,y1⟩:=l1;simp only at e3 e4;rw[e3,e4]
theorem DmI.ext(h:DmI y wh n v){kk:Nat}{ns:List Int}(he:DmE y kk ns):DmI y wh (n+1) (addC v [⟨kk,5,ns⟩]):=by
 have hT:(v.T++ [(⟨kk,5,ns⟩:Et)]).length =v.T.length+1:=by simp
 have hf:=h.f
 have hsl:=h.sl
 have hln:=h.ln
 refine⟨h.d,h.r,h.f,?_,?_,?_,?_⟩
 ·show v.su≤(v.T++ [_]).length
  omega
 ·show(v.T++ [_]).length ≤n+1
  omega
 ·intro k k1 k2;have k2':k≤(v.T++ [(⟨kk,5,ns⟩:Et)]).length :=k2
  show∃l,runT ((v.T++ [(⟨kk,5,ns⟩:Et)]).take k) 5=V l∧DmL y wh l
  by_cases hk:k≤v.T.length
  ·rw[List.take_append_of_le_length hk];exact h.p k k1 hk
  ·rw[List.take_of_length_le (by omega),run_snoc];obtain⟨l,h1,h2⟩:=h.p v.T.length (by omega) (zD _);rw[List.take_length]at h1;exact⟨_,fol_at h1 he.ne,h2.fol he⟩
 ·show∀e∈v.T++ [_],e.id=5
  intro e he;rcases List.mem_append.1 he with he|he
  ·exact h.ei e he
  ·rw[List.mem_singleton.1 he]
theorem DmL.send{l:Lk}(hl:DmL y wh l)(v:Ch):sendS v l=v:=by
 unfold sendS
 rw[hl.at_.2.1,if_neg (by simp)]
theorem DmI.go(h:DmI y wh n v){l:Lk}(hl:DmL y wh l):DmI y wh n (goS v l):=by
 unfold goS
 split
 ·exact h.setH _
 ·unfold agnC;rw[hl.send];exact h.setH _
theorem DmI.ng(h:DmI y wh n v){l:Lk}(hl:DmL y wh l){kk:Nat}{ns:List Int}(he:DmE y kk ns):DmI y wh (n+1) (ngS v l kk ns):=by
 unfold ngS
 split
 ·rw[show l.o.id=5 by rw[hl.at_.1];rfl];exact(h.ext he).go (hl.fol he)
 ·exact h.le (Nat.le_succ n)
theorem DmI.hd(g:GoodCh v)(h:DmI y wh n v){m:Mg}(hk:m.k≠17)(hid:m.id=5):DmI y wh (n+1) (hdSA v m).1 :=by
 have h':=h.le (Nat.le_succ n)
 obtain⟨l,hl,hd⟩:=h.at_ g
 obtain⟨a1,a2,a3,a4,a5,a6,-,-⟩:=hd.at_
 unfold hdSA
 split
 ·exact h'
 ·split
  ·exact h'
  ·rw[hid,hl];dsimp only;split
   ·rename_i hkp;unfold keepSA;rw[if_neg (fun e=>by rw[a4]at e;cases e.2),if_neg (fun e=>by rw[a4]at e;cases e.2)];split
    ·refine h.ng hd (.inl ⟨rfl,?_⟩);unfold keepB at hkp;simp only[Bool.or_eq_true,beq_iff_eq]at hkp;rcases hkp with e|e
     ·rw[e];exact .inl rfl
     ·rw[e];exact .inr rfl
    ·rw[if_neg (fun e=>hk e.1)];exact h'
   ·split
    ·unfold shipSA;split
     ·rename_i hs;have:=hs.2
      rw[Bool.and_eq_true]at this;exact h.ng hd (.inr ⟨rfl,rfl,by rw[←a6];exact this.1⟩)
     ·exact h'
    ·have e:srvB l m=false:=by
      unfold srvB;rw[a1];show(decide (0≤m.st)&&decide (m.st<((0:Nat):Int))&&_)=false
      by_cases h0:(0:Int)≤m.st
      ·rw[decide_eq_false (show¬m.st<((0:Nat):Int) by omega)];simp
      ·rw[decide_eq_false h0];simp
     rw[e];exact h'
theorem DmI.rng(g:GoodCh v)(h:DmI y wh n v):DmI y wh n (rngS v 5):=by
 obtain⟨l,hl,hd⟩:=h.at_ g
 unfold rngS
 split
 ·exact h
 ·rw[hl];dsimp only;rw[hd.at_.2.2.1,if_pos rfl];unfold agnC;split
  ·rw[hd.send];exact(h.setH _).setH _
  ·rw[hd.send];exact h.setH _
theorem DmI.down(g:GoodCh v)(h:DmI y wh n v)(stay:Int):DmI y wh n (upC (crC v stay)):=by
 have hsl:=h.sl
 have hsu:=h.f
 have hln:=h.ln
 have hkp:v.su≤kpC v stay∧kpC v stay≤v.T.length:=by unfold kpC;omega
 obtain⟨T',hT⟩:∃T',v.T.take (kpC v stay)=T':=⟨_,rfl⟩
 have hlen:T'.length=kpC v stay:=by rw[←hT,List.length_take];omega
 have hei:∀e∈T',e.id=5:=fun e he=>h.ei e (List.mem_of_mem_take (by rw[hT];exact he))
 have hp:∀k,4≤k→k≤T'.length→∃l,runT (T'.take k) 5=V l∧DmL y wh l:=fun k k1 k2=>by
  rw[←hT,List.take_take,Nat.min_eq_left (by omega)];exact h.p k k1 (by omega)
 obtain⟨l,r1,r2⟩:=hp T'.length (by omega) (zD _)
 rw[List.take_length]at r1
 have gk:=crC_good g stay
 have hDT:(crC v stay).T =T':=hT
 have hno:∀x,x≠(ltO 5).id →runT T' x=H:=fun x hx=>run_none T' noL x (fun e he e2=>hx (e2.symm.trans (hei e he))) rfl
 rw[up_one (v:=crC v stay) (o:=ltO 5) rfl (noL_good.fols gk.ok) (by rw[hDT];exact r1) (by rw[hDT];exact hno)]
 have hrm:(crC v stay).room =4096:=h.r
 obtain⟨vD,hD⟩:∃vD,crC v stay=vD:=⟨_,rfl⟩
 rw[hD]at hDT hrm ⊢
 have hR:DmI y wh n (rvC vD):=by
  refine⟨rfl,hrm,?_,zD _,?_,?_,?_⟩
  ·show 4≤vD.T.length
   rw[hDT];omega
  ·show vD.T.length≤n
   rw[hDT];omega
  ·show∀k,4≤k→k≤vD.T.length→∃l,runT (vD.T.take k) 5=V l∧DmL y wh l
   rw[hDT];exact hp
  ·show∀e∈vD.T,e.id=5
   rw[hDT];exact hei
 have hl:(rvC vD).L (ltO 5).id =V l:=by show runT vD.T 5=V l;rw[hDT];exact r1
 unfold wkC
 rw[hl]
 dsimp only
 split
 ·exact hR
 ·rw[r2.at_.2.2.2.1,if_neg (by decide)];exact hR.setH _
def dmT(wh:Bool):List UInt8:=[53,58,32,100,97,109,97,103,101,100]++(if wh=true then[32,112,117,114,115,101]else[32,115,116,111,99,107])
theorem DmI.tell(g:GoodCh v)(h:DmI y wh n v)(R:Int→Bool):stD v R 5=7∧telL v R 5=dmT wh:=by
 obtain⟨l,hl,hd⟩:=h.at_ g
 obtain⟨a1,a2,a3,a4,a5,a6,a7,a8⟩:=hd.at_
 have hs:stC v 5=7:=by unfold stC;rw[hl];exact a5
 have hk:lkD v 5=l:=by unfold lkD;rw[hl];rfl
 have h1:stD v R 5=7:=by unfold stD;rw[hs,if_neg (fun e=>by cases e.1)]
 refine⟨h1,?_⟩
 unfold telL
 rw[h1,hk]
 have e:wrdL 7 l.f= [100,97,109,97,103,101,100]++whoL l.f.d0 l.f.d1:=rfl
 rw[e,a7,a8,itoa_one (by decide) (by decide)]
 cases wh<;>rfl
theorem DmI.acc(g:GoodCh v)(h:DmI y wh n v)(hn:n+1≤4096):accE v 5=0∧accE (accS v 5) 5=7∧accS (accS v 5) 5=accS v 5∧∀R,stD (accS v 5) R 5≠7:=by
 obtain⟨l,hl,hd⟩:=h.at_ g
 obtain⟨a1,a2,a3,a4,a5,a6,a7,a8⟩:=hd.at_
 have hln:=h.ln
 have hrm:roomC v 1=true:=by unfold roomC;rw[h.r,decide_eq_true_eq];omega
 have hE:accE v 5=0:=by
  unfold accE;rw[h.d,hl];dsimp only;rw[if_neg (by decide),if_pos a5];unfold noE;rw[hrm,if_pos rfl]
 have hf:fol v.L ⟨10,5,[]⟩ 5=V (folL l 10 []):=fol_at hl (by decide)
 obtain⟨z,hz1,hz2,hz3⟩:∃z,(accS v 5).L 5=V z∧(accS v 5).down =false∧(stF z.o z.f≠7∧stF z.o z.f≠0):=by
  refine⟨folL l 10 [],?_,?_,?_⟩
  ·unfold accS;rw[h.d,hl];dsimp only;rw[if_neg (by decide),if_pos ⟨a5,hrm⟩];have e:(accV v l).L 5=V (folL l 10 []):=by
    show fol v.L ⟨10,l.o.id,[]⟩ 5=_
    rw[a1];exact hf
   split<;>exact e
  ·unfold accS;rw[h.d,hl];dsimp only;rw[if_neg (by decide),if_pos ⟨a5,hrm⟩];split<;>exact h.d
  ·obtain⟨k,s,yy,hs,rfl⟩:=hd;exact dm_acc y wh k s hs
 generalize accS v 5=v' at *
 refine⟨hE,?_,?_,fun R=>?_⟩
 ·unfold accE;rw[hz2,hz1];dsimp only;rw[if_neg (by decide),if_neg hz3.1]
 ·unfold accS;rw[hz2,hz1];dsimp only;rw[if_neg (by decide),if_neg (fun e=>hz3.1 e.1)]
 ·unfold stD stC;rw[hz1];dsimp only;rw[if_neg (fun e=>hz3.2 e.1)];exact hz3.1
end
def dmB(y:Bool):Ch:=if y=true then(hdSA (hdSA (begS (newCh 3 4096 3) (ltO 5)) ⟨7,1,0,5,0,0,0⟩).1 ⟨7,2,0,5,0,0,0⟩).1 else canS (begS (newCh 3 4096 3) (ltO 5)) 5
def dmW(wh:Bool):Int:=if wh=true then 2 else 1
def dmV(y wh:Bool):Ch:=(hdSA (dmB y) ⟨17,dmW wh,0,5,0,0,0⟩).1
def dmT4(y wh:Bool):List Et:=[⟨0,5,[0,1,0,1]⟩,⟨3,5,[]⟩,⟨if y=true then 4 else 5,5,[]⟩,⟨8,5,[dmW wh]⟩]
theorem dm_b:begE (newCh 3 4096 3) (ltO 5)=0:=by kernel_rfl
theorem dm_T(y wh:Bool):(dmV y wh).T =dmT4 y wh∧(dmV y wh).su =4∧(dmV y wh).down =false∧(dmV y wh).room =4096:=by
 cases y<;>cases wh<;>exact⟨by kernel_rfl,by kernel_rfl,by kernel_rfl,by kernel_rfl⟩
theorem dm_r(y wh:Bool):∃l,runT (dmT4 y wh) 5=V l∧DmL y wh l:=by
 cases y<;>cases wh<;>exact⟨_,rfl,false,false,H,(fun e=>by cases e),by rfl⟩
theorem dm_new(y wh:Bool):DmI y wh 4 (dmV y wh):=by
 obtain⟨h1,h2,h3,h4⟩:=dm_T y wh
 refine⟨h3,h4,Nat.le_of_eq h2.symm,?_,?_,?_,?_⟩
 ·rw[h1,h2];exact zD 4
 ·rw[h1];exact zD 4
 ·intro k k1 k2;rw[h1]at k2 ⊢;rw[List.take_of_length_le k1];exact dm_r y wh
 ·rw[h1];intro e he;unfold dmT4 at he;simp only[List.mem_cons,List.not_mem_nil,or_false]at he;rcases he with rfl|rfl|rfl|rfl<;>rfl
theorem dm_a(y wh:Bool):∃r,(hdSA (dmB y) ⟨17,dmW wh,0,5,0,0,0⟩).2 =⟨18,0,dmW wh,5,0,0,0⟩::r:=by
 refine⟨(hdSA (dmB y) ⟨17,dmW wh,0,5,0,0,0⟩).2.tail,?_⟩
 cases y<;>cases wh<;>kernel_rfl
theorem lines_ok{v:Ch}(g:GoodCh v):∀x∈v.T.map lnC,Ok x:=fun x h=>by
 obtain⟨e,he,rfl⟩:=List.mem_map.1 h
 exact ok_line (fits_ok g.ok e he).may
theorem kp_eq(v:Ch)(stay:Int):keptN (v.T.map lnC) v.su stay=kpC v stay:=by
 unfold keptN kpC
 rw[List.length_map]
theorem crC_jl{v:Ch}(g:GoodCh v)(hz:∀x∈v.T.map lnC,1≤x.size)(stay torn:Int):JL (crashL (v.T.map lnC) v.su stay torn) (crC v stay):=by
 have h2:=g.su
 have hk:kpC v stay≤v.T.length:=by unfold kpC;omega
 have hl:(v.T.take (kpC v stay)).length =kpC v stay:=by rw[List.length_take];omega
 obtain⟨h3,h4⟩:=whole_crash (lines_ok g) (by rw[List.length_map];exact h2) hz stay torn
 rw[kp_eq]at h3 h4
 refine⟨?_,(fun e=>by cases e),fun _=>?_⟩
 ·show(crashL (v.T.map lnC) v.su stay torn).take (v.T.take (kpC v stay)).length =(v.T.take (kpC v stay)).map lnC
  rw[hl,h4,List.map_take]
 ·show(wholeD fun s=>Classical.propDecidable (Ok s)) (crashL (v.T.map lnC) v.su stay torn)=(v.T.take (kpC v stay)).length
  rw[hl,h3]
end Go.Proofs.YthfgmpooehkhgaaGreatDoor
namespace Go.Proofs.YthfgmpooehkhgaaGreatDoor.Ci
open Go.ChangeShapes Go.WideShapes Go.ChangeAt Go.RowKit Go.Shelf Go.Maps Go.Sort Sg Bl
open Option renaming some→V,none→H
theorem keyscall(mb:Option Nat)(W:World):CallsIn Fence.wide 5 Tryz.prog 164 #[.map mb] W fun e w'=>e= .returned (.func (.func 200) #[] #[.pointer (V ⟨W.heap.size,0,H⟩)])∧w'=W.alloc (.cells #[.map mb] 92):=
 AnyZI.keys_in Tryz.keysB Fence.wide 5 trivial rfl mb W
theorem sortedcall{R:Value→Option (DataW Unit×List MemPlace)}{b n:Nat}{D:DataW Unit}{w:World}(hown:w.ownsMap Tryz.prog 3 R b n D)(hn:n≤1000000):
 CallsIn Fence.wide 5 Tryz.prog 163 #[.func (.func 200) #[] #[.pointer (V ⟨w.heap.size,0,H⟩)]] (w.alloc (.cells #[.map (V b)] 92)) fun e w'=>∃(v:Value)(ss:List Int),e= .returned v∧ss.Perm (intKeys D)∧
  w'.ownsRow (w.alloc (.cells #[.map (V b)] 92)).heap.size 3 1 v ss.length ((ss.mergeSort (fun x y=>decide (x≤y))).map encZ)∧(v= .slice H 0 0↔ss= [])∧Below (w.alloc (.cells #[.map (V b)] 92)).heap.size (w.alloc (.cells #[.map (V b)] 92)) w':=by
 have hsz:=hown.size_le
 have hseq:SeqGives Fence.wide 2 Tryz.prog 200 #[.pointer (V ⟨w.heap.size,0,H⟩)] encZ (fun ss=>ss.Perm (intKeys D)) (Maps.size D) (w.alloc (.cells #[.map (V b)] 92)):=
  AnyZI.keys_gives (ρ:=Tryz.keysB_ren) {Tryz.keysB with} Fence.wide _ trivial rfl (by omega) w.heap.size b n D _ (by simp) (by simp) (hown.alloc _)
 exact AnyZI.sorted_in Tryz.sortedA Fence.wide 5 trivial trivial trivial trivial rfl (by omega) (sortsA _) (enters_of Tryz.func199 (by kernel_rfl) rfl) 200 #[.pointer (V ⟨w.heap.size,0,H⟩)] trivial (enters_of Tryz.func200 (by kernel_rfl) rfl) _ _ (by unfold maxLen;omega) (by omega) _ hseq
theorem ids9_rise:ids9.Pairwise (· < ·):=by
 unfold ids9
 rw[List.pairwise_map]
 exact List.pairwise_lt_range.imp (fun h=>by omega)
theorem idsC_rise(L:Int→Option Lk):(idsC L).Pairwise (· < ·):=ids9_rise.filter _
theorem keys_ids{R:Value→Option (DataW Unit×List MemPlace)}{b n:Nat}{D:DataW Unit}{w:World}{L:Int→Option Lk}(gm:GoodM L)(hown:w.ownsMap Tryz.prog 3 R b n D)(hD:∀x:Int,Maps.has D (.int .i64 x)=(L x).isSome){ss:List Int}(hp:ss.Perm (intKeys D)):
 ss.mergeSort (fun x y=>decide (x≤y))=idsC L∧ss.length=(idsC L).length :=by
 have hC:CollectedI D (fun _=>false) (idsC L):=⟨idsC_nodup L,fun x=>by rw[idsC_mem gm,hD];simp⟩
 have hq:ss.Perm (idsC L):=hp.trans (hC.perm hown lawI Tryz.underlying3 (fun _=>rfl)).symm
 refine⟨?_,hq.length_eq⟩
 refine(mergeSort_of_perm_i hq).trans (List.mergeSort_of_pairwise ?_)
 exact(idsC_rise L).imp (fun h=>by simp;omega)
set_option maxHeartbeats 1000000 in
theorem cids_any{B:Nat}{O:Pt→Nat→Prop}{w:World}{p:Nat}{v:Ch}{q:Nat}{r:Value}{b bt:Nat}{loc:Int→Option Nat}{Lq:List ByteArray}(k:CkV B O w p v q r b bt loc Lq)(gm:GoodM v.L):
 Calls Tryz.prog 112 #[.pointer (V ⟨p,0,H⟩)] w fun e w'=>∃Bi,e= .returned (.func (.func 197) #[] #[.pointer (V ⟨Bi,0,H⟩)])∧Below w.heap.size w w'∧EachAt w.heap.size w'.heap.size w' Bi (idsC v.L):=by
 obtain⟨-,-,-,c3,-⟩:=k.cell3
 obtain⟨D,hown,hfit⟩:=k.mp
 have hLD:∀x:Int,Maps.has D (.int .i64 x)=(v.L x).isSome :=fun x=>by
  rw[(hfit.2 x).2];rcases k.at_ x with⟨h1,h2⟩|⟨l,a,h1,h2,-⟩<;>simp only[h1,h2]<;>rfl
 have cS:=sortedcall hown (show 999≤1000000 by decide)
 have KI:=fun ss=>keys_ids (ss:=ss) gm hown hLD
 clear k hown hfit hLD
 refine(callsIn_wide (n:=6)).1 ?_
 have hfK:Fence.wide.fn 164:=trivial
 have hfS:Fence.wide.fn 163:=trivial
 have hfE:Fence.wide.fn 162:=trivial
 have cE:∀(a:Option Addr)(l c:Nat)(W:World),CallsIn Fence.wide 5 Tryz.prog 162 #[.slice a l c] W _:=fun a l c W=>callsIn_wide.2 (each_any a l c W)
 refine callsIn_of_wp Tryz.func112 rfl trivial ?_ rfl
 simp only[Tryz.ntmps112,List.size_toArray,List.length_cons,List.length_nil,Nat.reduceAdd,Nat.reduceSub,Array.replicate_succ,Array.replicate_zero,List.push_toArray,List.append_toArray,List.nil_append,List.cons_append]
 gi_wp2_with (first
  |(gi_at_call 164;refine(keyscall _ _).mono ?_;rintro e w' ⟨rfl,rfl⟩)
  |(gi_at_call 163;refine cS.mono ?_;rintro e w1 ⟨sv,ss,rfl,hp,hrow,-,hb⟩;obtain⟨e1,e2⟩:=KI ss hp;rw[e1,e2]at hrow;obtain⟨a1,n1,rfl,-⟩:=row_slice hrow;clear cS KI)
  |(gi_at_call 162;refine(cE _ _ _ _).mono ?_;rintro e w2 ⟨rfl,rfl⟩))
 go_ret
 have hsz:w.heap.size≤w1.heap.size:=by have:=hb.size;simp at this;omega
 have hr2:=hrow.alloc (.cells #[.slice a1 (idsC v.L).length n1] 60)
 refine⟨_,rfl,((Below.refl _ w).alloc (Nat.le_refl _) _).trans ((hb.mono (by simp)).alloc hsz _),_,⟨hsz,by simp⟩,World.alloc_heap_new _ _,own_low hr2 (by simp),fun k e=>(hr2.lt k e).2⟩
end Go.Proofs.YthfgmpooehkhgaaGreatDoor.Ci
namespace Go.Proofs.YthfgmpooehkhgaaGreatDoor
open Go.ChangeShapes Go.WideShapes Go.ChangeAt Go.RowKit Go.Shelf Go.Maps Sg Bl
attribute [local go_sem] Oper.semAt_some
def PlainAt(w:World)(i:Nat):Prop:=(∃cs t f,w.heap[i]?=some (.cells cs t f))∨∃es c,w.heap[i]?=some (.map es c)
theorem PlainAt.kept{F:Nat→Obj→Prop}{w w':World}{i:Nat}(h:PlainAt w i)(hk:Rg.Kept F w w')(hF:∀o,¬F i o):PlainAt w' i:=by
 rcases h with⟨cs,t,f,h⟩|⟨es,c,h⟩
 ·exact .inl ⟨cs,t,f,hk.block _ _ h (hF _)⟩
 ·exact .inr ⟨es,c,hk.block _ _ h (hF _)⟩
theorem kept_put{F:Nat→Obj→Prop}{W:World}{l:Nat}{o:Obj}(o':Obj)(ho:W.heap[l]?=some o)(hF:F l o):Rg.Kept F W (W.putObj l o'):=
 ⟨rfl,rfl,rfl,by simp,fun k o2 hk hx=>(World.putObj_heap_other (fun e=>hx (by subst e;rw[ho]at hk;cases hk;exact hF))).trans hk⟩
theorem row_plain{w:World}{B:Nat}{e:TypeId}{s:Nat}{v:Value}{n:Nat}{xs:List Value}(h:w.ownsRow B e s v n xs):∀i,v.ownBlock=some i→PlainAt w i:=fun i hi=>by
 rcases h.2 with⟨rfl,_⟩|⟨g,cap,cur,rfl,_,hc,_⟩
 ·simp[Value.ownBlock]at hi
 ·simp[Value.ownBlock]at hi;subst hi;exact .inl ⟨_,_,_,hc⟩
theorem row_plain2{w:World}{B:Nat}{e:TypeId}{s:Nat}{a:Option Addr}{n c:Nat}{xs:List Value}(h:w.ownsRow B e s (.slice a n c) n xs):∀x,a=some x→PlainAt w x.block:=fun x hx=>by
 rcases h.2 with⟨e,_⟩|⟨g,cap,cur,e,_,hc,_⟩
 ·cases e;cases hx
 ·cases e;cases hx;exact .inl ⟨_,_,_,hc⟩
section
variable {B:Nat}{O:Pt→Nat→Prop}{w w':World}{p:Nat}{v:Ch}{q:Nat}{r:Value}{b bt:Nat}{loc:Int→Option Nat}{Lq:List ByteArray}
theorem CkV.exact(k:CkV B O w p v q r b bt loc Lq):CkV B (fun x i=>O x i∧PlainAt w i) w p v q r b bt loc Lq:=by
 refine⟨fun x i e=>k.bd x i e.1,fun x y i e1 e2=>k.dj x y i e1.1 e2.1,⟨k.op,.inl ⟨_,_,_,k.blk⟩⟩,k.blk,k.jr,⟨k.oq,.inl ⟨_,_,_,k.jr.1⟩⟩,fun i e=>⟨k.or i e,row_plain k.jr.2.2.1 i e⟩,?_,k.mp,⟨k.ob,?_⟩,fun id l e=>?_,k.no⟩
 ·obtain⟨h1,h2,h3,mv,h4,h5⟩:=k.bl;refine⟨fun i e=>h1 i e.1,⟨h2,.inl ⟨_,_,_,h4⟩⟩,h3,mv,h4,?_⟩;rcases h5 with h5|⟨b2,e1,e2,D,e3,e4⟩
  ·exact .inl h5
  ·refine .inr ⟨b2,e1,⟨e2,?_⟩,D,e3,e4⟩;obtain⟨es,c,hh,_⟩:=e3;exact .inr ⟨es,c,hh⟩
 ·obtain⟨D,⟨es,c,hh,_⟩,_⟩:=k.mp;exact .inr ⟨es,c,hh⟩
 ·obtain⟨a,h1,sa,sc,da,dc,ua,uc,tp,h2⟩:=k.ld id l e;refine⟨a,h1,sa,sc,da,dc,ua,uc,tp,⟨h2.blk,h2.low,h2.sr,h2.dr,h2.ur,h2.ne,h2.tl,⟨h2.ia,.inl ⟨_,_,_,h2.blk⟩⟩,fun x e=>⟨h2.is x e,row_plain2 h2.sr x e⟩,fun x e=>⟨h2.id x e,row_plain2 h2.dr x e⟩,fun x e=>⟨h2.iu x e,row_plain2 h2.ur x e⟩,fun t e=>⟨h2.it t e,?_⟩⟩⟩;rcases h2.tl with⟨e2,_⟩|⟨t2,y,e2,_,e3⟩
  ·rw[e2]at e;cases e
  ·rw[e2]at e;cases e;exact .inl ⟨_,_,_,e3.1.1⟩
end
namespace Rl
open Rp
theorem each_keep{B n₀ n₁ Bi:Nat}{W W':World}{L:List Int}(h:Ci.EachAt n₀ n₁ W Bi L)(hk:Keep B n₀ n₁ W W'):Ci.EachAt n₀ n₁ W' Bi L:=by
 obtain⟨v,h1,h2,h3,h4⟩:=h
 refine⟨v,h1,(hk.2 Bi h1.1 h1.2).trans h2,⟨h3.1,?_⟩,h4⟩
 rcases h3.2 with h5|⟨g,cap,cur,rfl,hg,hc,rest⟩
 ·exact .inl h5
 ·exact .inr ⟨g,cap,cur,rfl,hg,(hk.2 g hg (h4 g rfl)).trans hc,rest⟩
set_option maxRecDepth 100000 in
set_option maxHeartbeats 2000000 in
theorem each2_in(n:Nat)(hn:1≤n)(l Bi B n₀ n₁:Nat)(L:List Int)(hl:L.length≤1000000)(J:Nat→List Int→World→Prop)(Jx:List Int→World→Prop)
 (hY:∀M pre x W1,J M pre W1→pre.length<L.length→x=L.getD pre.length 0→YieldAt Fence.wide (n-1) Tryz.prog l #[.int .i64 x] W1 fun e W'=>(e= .returned (.bool true)∧Ex J (pre++ [x]) W'∧Keep B n₀ n₁ W1 W')∨(e= .returned (.bool false)∧Jx (pre++ [x]) W'))
 (W:World) (hE:Ci.EachAt n₀ n₁ W Bi L) (h0:Ex J [] W):
 CallsIn Fence.wide n Tryz.prog 197 #[.func (.yield l) #[] #[],.pointer (some ⟨Bi,0,none⟩)] W fun e W'=>(∃v,e= .returned v)∧((∃ys,ys=L∧Ex J ys W')∨(∃pre,pre<+:L∧Jx pre W')):=by
 have HY:=hide hY
 have HJ0:=hide h0
 have HE:=hide hE
 have hnf:∀u:World,(binOp BinOp.eql 101 (.func (.yield l) #[] #[]) .nilFunc).run Tryz.prog u= .ok (.bool false) u:=fun _=>by kernel_rfl
 obtain⟨v0,hv0⟩:=id hE
 obtain⟨a,c,rfl,hc0,-⟩:=hv0.row
 clear hY h0 hE hv0
 refine callsIn_of_wp Tryz.func197 rfl trivial ?_ rfl
 simp only[Tryz.ntmps197,List.size_toArray,List.length_cons,List.length_nil,Nat.reduceAdd,Nat.reduceSub,Array.replicate_succ,Array.replicate_zero,List.push_toArray,List.append_toArray,List.nil_append,List.cons_append]
 have HR0:Hid (Ints W a L∧W.cell? ⟨Bi,0,none⟩=some (.slice a L.length c)):=by
  obtain⟨v1,hv1⟩:=HE.out;obtain⟨a',c',e1,e2,e3⟩:=hv1.row;rw[hc0]at e2;cases e2;exact⟨e3,hc0⟩
 gi_wp2
 gi_loopw [9] (fun i wr=>∃pre:List Int,i= .int .i64 pre.length∧pre.length≤L.length∧Hid (pre=L.take pre.length)∧Hid (Ex J pre wr)∧Hid (Keep B n₀ n₁ W wr)) (fun i _=>L.length-(Go.RowKit.intOf i).toNat)
 case atStart=>exact⟨[],rfl,Nat.zero_le _,rfl,HJ0,Keep.refl _ _ _ _⟩
 case round=>
  obtain⟨pre,rfl,hp,HP,HJ,HK⟩:=hrel;by_cases hlt:pre.length<L.length
  ·obtain⟨v1,hv1⟩:=each_keep HE.out HK.out;obtain⟨a',c',e1,e2,e3⟩:=hv1.row;have hx1:wr.cell? ⟨Bi,0,none⟩=some (.slice a L.length c):=(World.cell?_of_block (HK.out.2 Bi hv1.1.1 hv1.1.2)).trans HR0.out.2
   rw[hx1]at e2;cases e2;rcases e3 with hi|⟨ba,oa,rfl,hca⟩
   ·exfalso;rw[hi]at hlt;simp at hlt
   have h1:=hca pre.length hlt
   obtain⟨x,hx⟩:∃x,x=L.getD pre.length 0:=⟨_,rfl⟩
   rw[←hx]at h1;have HPN:Hid (pre++ [x]=L.take (pre++ [x]).length):=by
    show pre++ [x]=L.take (pre++ [x]).length
    rw[List.length_append,List.length_singleton,←Ci.take_pre hlt,←hx,←HP.out]
   have HPF:Hid (pre++ [x]<+:L):=by
    show pre++ [x]<+:L
    rw[HPN.out];exact List.take_prefix _ _
   obtain⟨M,hM,hJM⟩:=HJ.out;obtain⟨fn,tmps,assign,body,hy,hR⟩:=HY.out M pre x wr hJM hlt hx;clear hx hca hx1 hv1 hJM;have q1:(pre.length:Int)<(L.length:Int):=by omega
   gi_wp2
   refine hR.mono ?_;rintro e W3 (⟨rfl,hJ3,hk3⟩|⟨rfl,hJ3⟩)
   ·have HJ3:=hide hJ3
    have HK3:=hide (HK.out.trans hk3)
    clear hJ3 hk3 hR h1
    gi_wp2
    go_roundw
    case rel=>exact⟨pre++ [x],by simp,by simp;omega,HPN,HJ3,HK3⟩
    case measure=>simp[Go.RowKit.intOf];omega
   ·have HJ3:=hide hJ3
    clear hJ3 hR h1
    gi_wp2
    refine bodyPost_ret (results_none rfl _ _ _) rfl ?_;exact⟨⟨_,rfl⟩,.inr ⟨_,HPF.out,HJ3.out⟩⟩
  ·have q1:¬(pre.length:Int)<(L.length:Int):=by omega
   have HL:Hid (pre=L):=by
    show pre=L
    have:=HP.out
    rwa [List.take_of_length_le (by omega)]at this
   gi_wp2
   go_end0
   refine⟨⟨_,rfl⟩,.inl ?_⟩;have h:=HJ.out
   rw[HL.out]at h;exact h
theorem each_tells(n:Nat)(hn:1≤n)(Bi B n₀ n₁:Nat)(L:List Int)(hl:L.length≤1000000)(w:World)(hE:Ci.EachAt n₀ n₁ w Bi L)(h1:n₁≤w.heap.size)(hB:B≤w.heap.size):
 SeqTells Fence.wide n Tryz.prog 197 #[.pointer (some ⟨Bi,0,none⟩)] (fun x:Int=>#[.int .i64 x]) (fun _ pre x _=>x=L.getD pre.length 0) (Keep B n₀ n₁) (fun ys=>ys=L) (fun pre=>pre<+:L) L.length w:=
 fun l J Jx W hWw _ hY h0=>each2_in n hn l Bi B n₀ n₁ L hl J Jx (fun M pre x W1 h2 h3 h4=>hY M pre x W1 h2 h3 h4) W (each_keep hE (Keep.of_below hWw hB h1)) h0
end Rl
end Go.Proofs.YthfgmpooehkhgaaGreatDoor
namespace Go.Proofs.YthfgmpooehkhgaaGreatDoor
open Go.ChangeShapes Go.WideShapes Go.ChangeAt Go.RowKit Go.Shelf Go.Maps Sg Bl
open Nat renaming le_refl→zD,le_trans→zK
open Rg.Kept renaming of_below→zE
open Go.World renaming alloc_heap_new→zI,putObj_heap_other→zM
open Option renaming some→V,none→H
open Go.Ending renaming returned→G
attribute [local go_sem] Oper.semAt_some
theorem wpIn_scope{F:Fence}{n:Nat}{P:Program}{Q:Exit→Act→World→Prop}{a:Act}{w:World}{c:Code}(h:c.wpIn F n P (Exit.noGoto Q) a w):(Code.scope c).wpIn F n P Q a w:=by
 intro b k cs hro hb hr
 have h0:(lone (b.atR a (.code (.scope c)::k)) cs w).fenced P F:=fenced_calm hb hr rfl
 have s0:step P (lone (b.atR a (.code (.scope c)::k)) cs w)= .next (lone (b.atR a (.code c:: .inScope c::k)) cs w):=step_lone_go (by simp[stepG,stepG.exec,Frame.atR])
 have s1:∀a w,step P (lone (b.atR a (.inScope c::k)) cs w)= .next (lone (b.atR a k) cs w):=fun a w=>step_lone_go (by simp[stepG,stepG.exec,Frame.atR])
 obtain⟨e,a₁,w₁,hq,harr⟩:=h b (.inScope c::k) cs hro hb hr
 cases e with
 |normal=>exact⟨.normal,a₁,w₁,hq,.head h0 s0 (StepsIn.trans harr (.one (fenced_calm hb hr rfl) (s1 _ _)))⟩
 |exit id=>
  have hx:exitTo id (.inScope c::k)=exitTo id k:=by simp[exitTo]
  exact⟨.exit id,a₁,w₁,hq,fun k' hk=> .head h0 s0 (harr.1 k' (by rw[hx];exact hk)),fun hr' hk=>let ⟨k₁,h1,h2⟩:=harr.2 hr' (by rw[hx];exact hk);⟨k₁,h1,.head h0 s0 h2⟩⟩
 |goto l=>exact hq.elim
 |ret=>exact⟨_,a₁,w₁,hq,.of_steps (.one h0 s0) harr⟩
 |panic ch=>exact⟨_,a₁,w₁,hq,.of_steps (.one h0 s0) harr⟩
 |outgrown=>exact⟨_,a₁,w₁,hq,.of_steps (.one h0 s0) harr⟩
theorem wkC_over{v:Ch}{id:Int}{l:Lk}(h:v.L id=V l)(ho:overF l.o l.f=true):wkC v id=v:=by
 unfold wkC
 rw[h]
 simp[ho]
theorem wkC_on{v:Ch}{id:Int}{l:Lk}(h:v.L id=V l)(ho:overF l.o l.f=false):wkC v id=hgC (if l.wt=true then sgS v l 5 []else v) id:=by
 unfold wkC
 rw[h]
 simp[ho]
def SIw(w0 w:World)(E1:Nat→Prop)(v0:Ch)(p q b bt:Nat)(loc0:Int→Option Nat)(w2:World)(M:Nat)(pre:List Int)(W:World):Prop:=
 (∃O r loc,Up w0.heap.size O W p (pre.foldl wkC v0) q r b bt loc∧(∀id a,loc0 id=V a→loc id=V a)∧∀i,Eo O i→((E1 i∨w2.heap.size≤i)∧i<M)∧PlainAt W i)∧Boxed W w.heap.size 25 (.pointer (V ⟨p,0,H⟩))∧Rg.Kept (fun k _=>E1 k) w2 W∧w2.heap.size≤W.heap.size
section
variable {w0 w w2 W W':World}{E1:Nat→Prop}{v0:Ch}{p q b bt:Nat}{loc0:Int→Option Nat}{M:Nat}{pre:List Int}
theorem SIw.above(hs:w.heap.size<w2.heap.size)(h:SIw w0 w E1 v0 p q b bt loc0 w2 M pre W)(hk:Rg.Kept (fun k o=>w2.heap.size≤k∧o.isCells=false∧∀es c,o≠ .map es c) W W'):SIw w0 w E1 v0 p q b bt loc0 w2 M pre W':=by
 obtain⟨⟨O,r,loc,h1,hl,h6⟩,h2,h3,h5⟩:=h
 have kF:∀ {i:Nat}(o:Obj),W.heap[i]?=V o→PlainAt W i→¬(w2.heap.size≤i∧o.isCells=false∧∀es c,o≠ .map es c):=fun {i} o ho hp e=>by
  rcases hp with⟨cs,t,f,hc⟩|⟨es,c,hc⟩
  ·rw[ho]at hc;cases hc;cases e.2.1
  ·rw[ho]at hc;cases hc;exact e.2.2 _ _ rfl
 have hkF:Rg.Kept (fun k _=>w2.heap.size≤k∧¬PlainAt W k) W W':=⟨hk.os,hk.tape,hk.output,hk.size,fun k o ho hx=>hk.block k o ho (fun e=>hx ⟨e.1,fun hp=>kF o ho hp e⟩)⟩
 refine⟨⟨O,r,loc,⟨h1.k.kept hkF (fun x i o e e2=>e2.2 (h6 i ⟨x,e⟩).2),h1.g,h1.d⟩,hl,fun i e=>⟨(h6 i e).1,(h6 i e).2.kept hkF (fun _ e2=>e2.2 (h6 i e).2)⟩⟩,hk.block _ _ h2 (fun e=>by omega),?_,zK h5 hk.size⟩
 exact⟨hk.os.trans h3.os,hk.tape.trans h3.tape,hk.output.trans h3.output,zK h3.size hk.size,fun k o hk' hx=>hk.block k o (h3.block k o hk' hx) (fun e=>by have:=(Array.getElem?_eq_some_iff.1 hk').1;omega)⟩
theorem SIw.step{n0:Nat}{id:Int}(hE:∀k,E1 k→w0.heap.size≤k∧k<w.heap.size)(hs:w.heap.size<n0∧n0≤w2.heap.size){O:Pt→Nat→Prop}{r:Value}{loc:Int→Option Nat}(h1:Up w0.heap.size O W p (pre.foldl wkC v0) q r b bt loc)(hl:∀id a,loc0 id=V a→loc id=V a)(h6:∀i,Eo O i→((E1 i∨w2.heap.size≤i)∧i<M)∧PlainAt W i)
 (h2:Boxed W w.heap.size 25 (.pointer (V ⟨p,0,H⟩))) (h3:Rg.Kept (fun k _=>E1 k) w2 W) (h5:w2.heap.size≤W.heap.size) (hU:UStp w0.heap.size O W p (wkC (pre.foldl wkC v0) id) q b bt loc W'):
 Rl.KeepsLp W W'∧Keep w0.heap.size n0 w2.heap.size W W'∧Rl.Ex (SIw w0 w E1 v0 p q b bt loc0 w2) (pre++ [id]) W':=by
 obtain⟨O',r',loc',k1,g1,K1,l1⟩:=hU
 have hlow:=h1.k.low
 have hU2:Up w0.heap.size (fun x i=>O' x i∧PlainAt W' i) W' p ((pre++ [id]).foldl wkC v0) q r' b bt loc':=by
  rw[List.foldl_append];exact⟨k1.k.exact,k1.g,k1.d⟩
 refine⟨⟨K1.size,fun k o hk hc hm=>K1.block k o hk (fun e=>?_)⟩,⟨K1.bel hlow (fun i _ ⟨x,e⟩=>(h1.k.bd x i e).1),fun k hk0 hk1=>?_⟩,W'.heap.size,zD _,⟨_,r',loc',hU2,fun i a e=>l1 i a (hl i a e),fun i ⟨x,e⟩=>⟨⟨?_,(k1.k.bd x i e.1).2⟩,e.2⟩⟩,?_,?_,zK h5 K1.size⟩
 ·rcases(h6 k e).2 with⟨cs,t,f,h⟩|⟨es,c,h⟩
  ·rw[hk]at h;cases h;cases hc
  ·rw[hk]at h;cases h;exact hm _ _ rfl
 ·have ek:W.heap[k]?=V W.heap[k]:=Array.getElem?_eq_getElem (by omega)
  rw[ek];refine K1.block k _ ek (fun e=>?_);rcases(h6 k e).1.1 with h|h
  ·have:=hE k h;omega
  ·omega
 ·rcases g1 i ⟨x,e.1⟩with h|h
  ·exact(h6 i h).1.1
  ·exact .inr (by omega)
 ·refine K1.block _ _ h2 (fun e=>?_);rcases(h6 _ e).1.1 with h|h
  ·have:=hE _ h;omega
  ·omega
 ·exact⟨K1.os.trans h3.os,K1.tape.trans h3.tape,K1.output.trans h3.output,zK h3.size K1.size,fun k o hk hx=>K1.block k o (h3.block k o hk hx) (fun e=>by
   rcases(h6 k e).1.1 with h|h
   ·exact hx h
   ·have:=(Array.getElem?_eq_some_iff.1 hk).1;omega)⟩
set_option maxRecDepth 100000 in
set_option maxHeartbeats 4000000 in
theorem cwake_at{O:Pt→Nat→Prop}{r:Value}(hg0:Gl w0)(hw:Below w0.heap.size w0 w)(h:Up w0.heap.size O w p v0 q r b bt loc0):
 Calls Tryz.prog 90 #[.pointer (V ⟨p,0,H⟩)] w fun e w'=>(∃x,e=G x)∧UStp w0.heap.size O w p ((idsC v0.L).foldl wkC v0) q b bt loc0 w':=by
 refine(callsIn_wide (n:=5)).1 ?_
 obtain⟨U,hU⟩:∃U,U=w.alloc (.cells #[.pointer (V ⟨p,0,H⟩)] 25):=⟨_,rfl⟩
 have hbU:Below w.heap.size w U:=by rw[hU];exact(Below.refl _ _).alloc (zD _) _
 have hzU:U.heap.size=w.heap.size+1:=by rw[hU];simp
 have hbx:Boxed U w.heap.size 25 (.pointer (V ⟨p,0,H⟩)):=by
  show U.heap[w.heap.size]?=_
  rw[hU];exact zI w _
 have ID:=Ci.cids_any (h.k.on hbU) h.g.gm
 have hEx:=h.k.exact
 obtain⟨E1,hE1⟩:∃E1:Nat→Prop,(fun i=>Eo O i)=E1:=⟨_,rfl⟩
 have bE1:∀k,E1 k→w0.heap.size≤k∧k<w.heap.size:=fun k e=>by
  rw[←hE1]at e;obtain⟨x,e⟩:=e;exact h.k.bd x k e
 have hLL:∀id∈idsC v0.L,(1≤id∧id≤999)∧∃a,loc0 id=V a:=fun id hi=>by
  have h2:=(idsC_mem h.g.gm).1 hi
  rcases h.k.at_ id with⟨e,_⟩|⟨l,a,e,e2,_⟩
  ·rw[e]at h2;cases h2
  ·exact⟨⟨(h.g.gm id l e).i1,(h.g.gm id l e).i2⟩,a,e2⟩
 have hlen:=idsC_len v0.L
 obtain⟨L,hLe⟩:∃L,idsC v0.L=L:=⟨_,rfl⟩
 rw[hLe]at ID hLL hlen ⊢
 have HG:=hide hg0
 have HW:=hide hw
 have HUP:=hide h
 have HUW:=hide hU
 have HBU:=hide hbU
 rw[hU]at ID
 clear hg0 hw h hbU hU
 refine callsIn_of_wp_marks Tryz.func90 rfl trivial ?_ rfl
 simp only[Tryz.ntmps90,List.size_toArray,List.length_cons,List.length_nil,Nat.reduceAdd,Nat.reduceSub,Array.replicate_succ,Array.replicate_zero,List.push_toArray,List.append_toArray,List.nil_append,List.cons_append]
 gi_wp2_with fail
 refine wpIn_scope ?_
 gi_wp2_with fail
 refine wpIn_label ?_
 gi_wp2_with fail
 refine⟨trivial,(callsIn_wide.2 ID).mono ?_⟩
 rintro e w2 ⟨Bi,rfl,hb2,hEA⟩
 rw[←HUW.out]at hb2 hEA
 have hs2:=hb2.size
 have hW2:Below w0.heap.size w0 w2:=bel_on' HW.out (bel_on' HBU.out hb2)
 have HLL:=hide hLL
 have hs0:=hW2.size
 have ES:=Rl.each_tells 4 (by omega) Bi w0.heap.size U.heap.size w2.heap.size L (by omega) w2 hEA (zD _) hW2.size
 have HI:Hid (Rl.Ex (SIw w0 w E1 v0 p q b bt loc0 w2) [] w2):=by
  have hbw2:=bel_on' HBU.out hb2
  have k2:=HUP.out.on hbw2
  refine⟨w2.heap.size,zD _,⟨_,r,loc0,⟨k2.k.exact,k2.g,k2.d⟩,fun _ _ e=>e,fun i ⟨x,e⟩=>⟨⟨.inl ?_,?_⟩,e.2⟩⟩,(hb2.block _ hbx.lt).trans hbx,Rg.Kept.refl _ _,zD _⟩
  ·rw[←hE1];exact⟨x,e.1⟩
  ·exact(k2.k.bd x i e.1).2
 clear hLL hLe hEA hbx hEx
 gi_wp2_with fail
 refine Rl.range_tells (I:=SIw w0 w E1 v0 p q b bt loc0 w2) (Ix:=fun _ _ _=>False)
  (Ax:=fun x a' _=>a'= {tmps:=#[Value.pointer (V {block:=p,off:=0}),Value.pointer (V {block:=w.heap.size,off:=0}),Value.int .i64 x,undef,Value.pointer (V {block:=p,off:=0}),
    Value.func (Fn.func 197) #[] #[Value.pointer (V {block:=Bi,off:=0})],Value.int .i64 x,undef,undef,undef,undef,undef,undef,undef,undef,undef,undef,undef,undef,undef,undef,undef,undef,undef,undef,undef,undef,undef],defers:=[]})
  rfl (by omega) (gf:=197) (lb:=#[.pointer (V ⟨Bi,0,H⟩)]) rfl trivial (enters_of Tryz.func197 (by kernel_rfl) rfl) ES
  (fun h k=>h.trans k) (fun W l o o' hl' ho hc=>⟨⟨rfl,rfl,rfl,by simp,fun k hk=>zM (by omega)⟩,fun k _ hk=>zM (by omega)⟩) (fun _=>rfl)
  (fun M pre W l r1 r2 hs hl hr=>SIw.above (by omega) hs (kept_put _ hr ⟨hl,rfl,fun _ _ e=>by cases e⟩)) (fun M pre A B hs hb=>SIw.above (by omega) hs (zE hb)) (fun c s W W' row hs hg hr=>hs.elim) (fun x a' s W W' row hs hg hr=>hs) (fun M pre x s W W' row hs hg hr=>hs) HI.out ?assign ?body ?done ?stop
 case assign=>
  intro l M pre x W K hI hG hK;have HK':=hK {tmps:=#[Value.pointer (V {block:=p,off:=0}),Value.pointer (V {block:=w.heap.size,off:=0}),Value.int .i64 x,undef,Value.pointer (V {block:=p,off:=0}),
   Value.func (Fn.func 197) #[] #[Value.pointer (V {block:=Bi,off:=0})],Value.int .i64 x,undef,undef,undef,undef,undef,undef,undef,undef,undef,undef,undef,undef,undef,undef,undef,undef,undef,undef,undef,undef,undef],defers:=[]} W
   (Rl.keepsLp_below (Below.refl _ _)) (Keep.refl _ _ _ _) hI hG rfl
  clear hK hG
  gi_wp2
  exact HK'
 case body=>
  rintro l M pre x a' W hI rfl hgx hlt;obtain⟨⟨O1,r1,loc1,h1,hl1,h6⟩,h2,h3,h5⟩:=hI;have hxm:x∈L:=by
   rw[hgx];simp only[List.getD,List.getElem?_eq_getElem hlt,Option.getD_some];exact List.getElem_mem hlt
  obtain⟨⟨x1,x2⟩,a,ha0⟩:=HLL.out x hxm;have ha:=hl1 x a ha0
  have hwf:=wf_id x1 x2
  have hLK:=h1.k.look hwf
  rw[ha]at hLK;obtain⟨lk,hlk⟩:∃lk,(pre.foldl wkC v0).L x=V lk:=by
   rcases h1.k.at_ x with⟨_,e⟩|⟨lk,a',e,_⟩
   ·rw[ha]at e;cases e
   ·exact⟨lk,e⟩
  obtain⟨sa,sc,da,dc,ua,uc,tp,kl⟩:=h1.led hlk ha;have OV:=lover_any kl
  have hBW:Below w0.heap.size w0 W:=hW2.trans (h3.bel hW2.size (fun i _ e=>(bE1 i e).1))
  have hg1:∀u,Rg.Kept (fun i _=>Eo O1 i) W u→Gl u:=fun u hk=>HG.out.on (hBW.trans (hk.bel h1.k.low (fun i _ ⟨y,e⟩=>(h1.k.bd y i e).1)))
  have ST:Hid (∀w',UStp w0.heap.size O1 W p (wkC (pre.foldl wkC v0) x) q b bt loc1 w'→Rl.KeepsLp W w'∧Keep w0.heap.size U.heap.size w2.heap.size W w'∧Rl.Ex (SIw w0 w E1 v0 p q b bt loc0 w2) (pre++ [x]) w'):=fun w' hU=>SIw.step bE1 (by omega) h1 hl1 h6 h2 h3 h5 hU
  obtain⟨-,-,-,c3,c4⟩:=h1.k.cell3;have cb:=h2.cell
  have HBX:=hide h2
  have hwlt:w.heap.size<W.heap.size:=h2.lt
  have nw:¬Eo O1 w.heap.size:=fun e=>by
   rcases(h6 _ e).1.1 with h|h
   ·have:=(bE1 _ h).2;omega
   ·omega
  cases hov:overF lk.o lk.f
  ·rw[hov]at OV;have hwk:=wkC_on hlk hov
   rw[hwk]at ST;have WT:Hid (∀W1,Below W.heap.size W W1→Calls Tryz.prog 152 #[.pointer (V ⟨a,0,H⟩)] W1 fun e w'=>e=G (.bool lk.wt)∧W1=w'):=fun W1 hb=>lwt_any (kl.on hb)
   have CE:Hid (∀W1,Below W.heap.size W W1→W1.cell? ⟨w.heap.size,0,H⟩=V (.pointer (V ⟨p,0,H⟩))∧W1.cell? ⟨p,4,H⟩=V (.pointer (V ⟨bt,0,H⟩))):=fun W1 hb=>⟨cellL cb hb,(h1.k.on hb).cell3.2.2.2.2⟩
   cases hwt:lk.wt
   ·rw[hwt]at WT ST;rw[if_neg (by decide)]at ST;have HA:Hid (∀W1,Below W.heap.size W W1→Calls Tryz.prog 59 #[.pointer (V ⟨bt,0,H⟩),.int .i64 x] W1 fun e w'=>(∃y,e=G y)∧Rl.KeepsLp W w'∧Keep w0.heap.size U.heap.size w2.heap.size W w'∧Rl.Ex (SIw w0 w E1 v0 p q b bt loc0 w2) (pre++ [x]) w'):=fun W1 hb=>((h1.on hb).hang hwf ⟨lk,hlk⟩).mono (fun e w' ⟨e1,e2⟩=>⟨e1,ST.out w' (e2.from hb)⟩)
    clear h1 hl1 h6 h2 h3 h5 kl hg1 ST hlk hgx hxm hBW hwk hov hwt nw
    gi_wp2_with fail
    refine⟨trivial,(CallsIn.inRound l (callsIn_wide.2 OV)).mono ?_⟩;rintro y W1 ⟨rfl,hb1⟩;obtain⟨cb1,c41⟩:=CE.out W1 hb1
    gi_wp2_with fail
    refine⟨trivial,(CallsIn.inRound l (callsIn_wide.2 (WT.out W1 hb1))).mono ?_⟩;rintro y W1' ⟨rfl,rfl⟩
    gi_wp2_with fail
    refine⟨trivial,(CallsIn.inRound l (callsIn_wide.2 (HA.out _ hb1))).mono ?_⟩;rintro y W3 ⟨⟨z,rfl⟩,hX⟩;have HX:=hide hX
    clear hX OV
    gi_wp2
    exact HX.out
   ·rw[hwt]at WT ST;rw[if_pos rfl]at ST;have TN:Hid (∀W1,Below W.heap.size W W1→Calls Tryz.prog 68 #[.pointer (V ⟨p,0,H⟩),.pointer (V ⟨a,0,H⟩)] W1 fun e w'=>(∃y,e=G y)∧(w'.cell? ⟨w.heap.size,0,H⟩=V (.pointer (V ⟨p,0,H⟩))∧w'.cell? ⟨p,4,H⟩=V (.pointer (V ⟨bt,0,H⟩)))∧
     Calls Tryz.prog 59 #[.pointer (V ⟨bt,0,H⟩),.int .i64 x] w' fun e w''=>(∃y,e=G y)∧Rl.KeepsLp W w''∧Keep w0.heap.size U.heap.size w2.heap.size W w''∧Rl.Ex (SIw w0 w E1 v0 p q b bt loc0 w2) (pre++ [x]) w''):=fun W1 hb=>by
     refine(cturn_any (h1.on hb) (fun u hk=>hg1 u ((zE hb).trans hk)) hlk ha).mono ?_;rintro e w' ⟨xx,e1,ra,rc,O2,r2,loc2,-,-,-,k2,g2,K2,l2⟩;have hl2:∃l2,(sgS (pre.foldl wkC v0) lk 5 []).L x=V l2:=by
      rcases k2.k.at_ x with⟨_,e⟩|⟨lk2,a',e,_⟩
      ·rw[l2 x a ha]at e;cases e
      ·exact⟨lk2,e⟩
     refine⟨⟨_,e1⟩,⟨kept_cellR K2 (fun _=>nw) (cellL cb hb),k2.k.cell3.2.2.2.2⟩,(k2.hang hwf hl2).mono ?_⟩;rintro e3 w3 ⟨e4,hU⟩;exact⟨e4,ST.out w3 ((UStp.two g2 K2 l2 hU).from hb)⟩
    clear h1 hl1 h6 h2 h3 h5 kl hg1 ST hlk hgx hxm hBW hwk hov hwt nw
    gi_wp2_with fail
    refine⟨trivial,(CallsIn.inRound l (callsIn_wide.2 OV)).mono ?_⟩;rintro y W1 ⟨rfl,hb1⟩;obtain⟨cb1,c41⟩:=CE.out W1 hb1
    gi_wp2_with fail
    refine⟨trivial,(CallsIn.inRound l (callsIn_wide.2 (WT.out W1 hb1))).mono ?_⟩;rintro y W1' ⟨rfl,rfl⟩
    gi_wp2_with fail
    refine⟨trivial,(CallsIn.inRound l (callsIn_wide.2 (TN.out _ hb1))).mono ?_⟩;rintro y W2 ⟨⟨z,rfl⟩,⟨cb2,c42⟩,HG2⟩
    gi_wp2_with fail
    refine⟨trivial,(CallsIn.inRound l (callsIn_wide.2 HG2)).mono ?_⟩;rintro y W3 ⟨⟨z,rfl⟩,hX⟩;have HX:=hide hX
    clear hX OV HG2
    gi_wp2
    exact HX.out
  ·rw[hov]at OV;have hwk:=wkC_over hlk hov
   rw[hwk]at ST;have SX:Hid (∀W1,Below W.heap.size W W1→Rl.KeepsLp W W1∧Keep w0.heap.size U.heap.size w2.heap.size W W1∧Rl.Ex (SIw w0 w E1 v0 p q b bt loc0 w2) (pre++ [x]) W1):=fun W1 hb=>ST.out W1 (h1.stay hb)
   clear h1 hl1 h6 h2 h3 h5 kl hg1 ST hlk hgx hxm hBW hwk hov nw
   gi_wp2_with fail
   refine⟨trivial,(CallsIn.inRound l (callsIn_wide.2 OV)).mono ?_⟩;rintro y W1 ⟨rfl,hb1⟩;have HX:=hide (SX.out W1 hb1)
   clear OV
   gi_wp2
   exact HX.out
 case done=>
  rintro D xs W hD hxs ⟨M,-,hI⟩ hK;have FIN:Hid (UStp w0.heap.size O w p (L.foldl wkC v0) q b bt loc0 (W.putObj D (.deferred H))):=by
   obtain⟨⟨O1,r1,loc1,h1,hl1,h6⟩,h2,h3,h5⟩:=SIw.above (by omega) hI (kept_put (.deferred H) hK ⟨hD,rfl,fun _ _ e=>by cases e⟩);rw[hxs]at h1;have hbw2:=bel_on' HBU.out hb2
   refine⟨O1,r1,loc1,h1,fun i e=>?_,(zE hbw2).trans (h3.mono (fun i _ e=>by rw[←hE1]at e;exact e)),hl1⟩;rcases(h6 i e).1.1 with e2|e2
   ·rw[←hE1]at e2;exact .inl e2
   ·obtain⟨y,e3⟩:=e;exact .inr ⟨by omega,(h1.k.bd y i e3).2⟩
  gi_wp2
  refine⟨by simp,.inl ⟨_,_,rfl,run_takeDeferred hK,?_⟩⟩;exact⟨_,results_none rfl _ _ _,⟨_,rfl⟩,FIN.out⟩
 case stop=>exact fun D c pre W _ _ h _=>h.elim
end
attribute [local go_sem] Oper.semAt_some
def SIc(w0 w:World)(E1:Nat→Prop)(v:Ch)(p q b bt:Nat)(w2:World)(M:Nat)(pre:List Ev)(W:World):Prop:=
 (∃O r loc,CkV w0.heap.size O W p (rvN v pre.length) q r b bt loc (v.T.map lnC)∧∀i,Eo O i→((E1 i∨w2.heap.size≤i)∧i<M)∧PlainAt W i)∧Boxed W w.heap.size 25 (.pointer (V ⟨p,0,H⟩))∧Rg.Kept (fun k _=>E1 k) w2 W∧pre.length≤v.T.length∧w2.heap.size≤W.heap.size
section
variable {w0 w w1 w2 W W':World}{E1:Nat→Prop}{v:Ch}{p q b bt:Nat}{M:Nat}{pre:List Ev}
theorem SIc.above(hs:w.heap.size<w2.heap.size)(h:SIc w0 w E1 v p q b bt w2 M pre W)(hk:Rg.Kept (fun k o=>w2.heap.size≤k∧o.isCells=false∧∀es c,o≠ .map es c) W W'):SIc w0 w E1 v p q b bt w2 M pre W':=by
 obtain⟨⟨O,r,loc,h1,h6⟩,h2,h3,h4,h5⟩:=h
 have kF:∀ {i:Nat}(o:Obj),W.heap[i]?=V o→PlainAt W i→¬(w2.heap.size≤i∧o.isCells=false∧∀es c,o≠ .map es c):=fun {i} o ho hp e=>by
  rcases hp with⟨cs,t,f,hc⟩|⟨es,c,hc⟩
  ·rw[ho]at hc;cases hc;cases e.2.1
  ·rw[ho]at hc;cases hc;exact e.2.2 _ _ rfl
 have hkF:Rg.Kept (fun k _=>w2.heap.size≤k∧¬PlainAt W k) W W':=⟨hk.os,hk.tape,hk.output,hk.size,fun k o ho hx=>hk.block k o ho (fun e=>hx ⟨e.1,fun hp=>kF o ho hp e⟩)⟩
 refine⟨⟨O,r,loc,h1.kept hkF (fun x i o e e2=>e2.2 (h6 i ⟨x,e⟩).2),fun i e=>⟨(h6 i e).1,(h6 i e).2.kept hkF (fun _ e2=>e2.2 (h6 i e).2)⟩⟩,hk.block _ _ h2 (fun e=>by omega),?_,h4,zK h5 hk.size⟩
 exact⟨hk.os.trans h3.os,hk.tape.trans h3.tape,hk.output.trans h3.output,zK h3.size hk.size,fun k o hk' hx=>hk.block k o (h3.block k o hk' hx) (fun e=>by have:=(Array.getElem?_eq_some_iff.1 hk').1;omega)⟩
theorem SIc.step{x:Ev}(hE:∀k,E1 k→(w0.heap.size≤k∧k<w1.heap.size)∧k≠w.heap.size)(hs:w.heap.size<w1.heap.size∧w1.heap.size≤w2.heap.size){O:Pt→Nat→Prop}{r:Value}{loc:Int→Option Nat}(h1:CkV w0.heap.size O W p (rvN v pre.length) q r b bt loc (v.T.map lnC))(h6:∀i,Eo O i→((E1 i∨w2.heap.size≤i)∧i<M)∧PlainAt W i)
 (h2:Boxed W w.heap.size 25 (.pointer (V ⟨p,0,H⟩))) (h3:Rg.Kept (fun k _=>E1 k) w2 W) (h4:pre.length<v.T.length) (h5:w2.heap.size≤W.heap.size) (hU:CStp w0.heap.size O W p (rvN v (pre.length+1)) q b bt loc (v.T.map lnC) W'):
 Rl.KeepsLp W W'∧Keep w0.heap.size w1.heap.size w2.heap.size W W'∧Rl.Ex (SIc w0 w E1 v p q b bt w2) (pre++ [x]) W':=by
 obtain⟨O',r',loc',k1,g1,K1,l1⟩:=hU
 have hlow:=h1.low
 have hU2:CkV w0.heap.size (fun x i=>O' x i∧PlainAt W' i) W' p (rvN v (pre++ [x]).length) q r' b bt loc' (v.T.map lnC):=by
  rw[List.length_append];exact k1.exact
 refine⟨⟨K1.size,fun k o hk hc hm=>K1.block k o hk (fun e=>?_)⟩,⟨K1.bel hlow (fun i _ ⟨x,e⟩=>(h1.bd x i e).1),fun k hk0 hk1=>?_⟩,W'.heap.size,zD _,⟨_,r',loc',hU2,fun i ⟨x,e⟩=>⟨⟨?_,(k1.bd x i e.1).2⟩,e.2⟩⟩,?_,?_,by rw[List.length_append];exact h4,zK h5 K1.size⟩
 ·rcases(h6 k e).2 with⟨cs,t,f,h⟩|⟨es,c,h⟩
  ·rw[hk]at h;cases h;cases hc
  ·rw[hk]at h;cases h;exact hm _ _ rfl
 ·have ek:W.heap[k]?=V W.heap[k]:=Array.getElem?_eq_getElem (by omega)
  rw[ek];refine K1.block k _ ek (fun e=>?_);rcases(h6 k e).1.1 with h|h
  ·have:=hE k h;omega
  ·omega
 ·rcases g1 i ⟨x,e.1⟩with h|h
  ·exact(h6 i h).1.1
  ·exact .inr (by omega)
 ·refine K1.block _ _ h2 (fun e=>?_);rcases(h6 _ e).1.1 with h|h
  ·exact(hE _ h).2 rfl
  ·omega
 ·exact⟨K1.os.trans h3.os,K1.tape.trans h3.tape,K1.output.trans h3.output,zK h3.size K1.size,fun k o hk hx=>K1.block k o (h3.block k o hk hx) (fun e=>by
   rcases(h6 k e).1.1 with h|h
   ·exact hx h
   ·have:=(Array.getElem?_eq_some_iff.1 hk).1;omega)⟩
set_option maxRecDepth 100000 in
set_option maxHeartbeats 4000000 in
theorem cstart_down{O:Pt→Nat→Prop}{r:Value}{loc:Int→Option Nat}{Lq:List ByteArray}(hg0:Gl w0)(hw:Below w0.heap.size w0 w)(k:CkV w0.heap.size O w p v q r b bt loc Lq)(g:GoodCh v)(hd:v.down=true)(hj:JL Lq v):
 Calls Tryz.prog 21 #[.pointer (V ⟨p,0,H⟩)] w fun e w'=>(∃x,e=G x)∧∃O' r' loc',Up w0.heap.size O' w' p (upC v) q r' b bt loc'∧(∀i,Eo O' i→growE (Eo O) w w' i)∧Rg.Kept (fun i _=>Eo O i) w w':=by
 refine(callsIn_wide (n:=5)).1 ?_
 obtain⟨U,hU⟩:∃U,U=w.alloc (.cells #[.pointer (V ⟨p,0,H⟩)] 25):=⟨_,rfl⟩
 have hbU:Below w.heap.size w U:=by rw[hU];exact(Below.refl _ _).alloc (zD _) _
 have hzU:U.heap.size=w.heap.size+1:=by rw[hU];simp
 have hbx:Boxed U w.heap.size 25 (.pointer (V ⟨p,0,H⟩)):=by
  show U.heap[w.heap.size]?=_
  rw[hU];exact zI w _
 have k0:=k.on hbU
 have D:=k0.dn
 have hE:∀i,Eo O i→w0.heap.size≤i∧i<w.heap.size:=fun i ⟨x,e⟩=>k.bd x i e
 have hln:(v.T.map lnC).length =v.T.length:=List.length_map _
 rw[hd]at D
 have e0:(⟨v.most,v.room,v.t,v.T,v.T.length,false,v.L,v.h⟩:Ch)=rvN v 0:=by
  rw[(g.dn hd).1,(g.dn hd).2];rfl
 have R:Hid (∀U',Below U.heap.size U U'→(U'.cell? ⟨w.heap.size,0,H⟩=V (.pointer (V ⟨p,0,H⟩))∧U'.cell? ⟨p,2,H⟩=V (.pointer (V ⟨q,0,H⟩)))∧Calls Tryz.prog 87 #[.pointer (V ⟨q,0,H⟩)] U' fun e w'=>(∃x,e=G x)∧∃O1 r',CkV w0.heap.size O1 w' p (rvN v 0) q r' b bt loc (v.T.map lnC)∧(∀i,Eo O1 i→growE (Eo O) w w' i∧i≠w.heap.size)∧Rg.Kept (fun k _=>Eo O k) w w'∧Boxed w' w.heap.size 25 (.pointer (V ⟨p,0,H⟩))):=fun U' hu=>by
  have k1:=k0.on hu
  have hbx1:Boxed U' w.heap.size 25 (.pointer (V ⟨p,0,H⟩)):=(hu.block _ hbx.lt).trans hbx
  have j1:=k1.jr
  rw[hd]at j1;refine⟨⟨hbx1.cell,k1.cell3.2.2.1⟩,(recover_down hg0 (bel_on' (bel_on' hw hbU) hu) j1).mono ?_⟩;rintro e w' ⟨h1,r',h2,h3⟩;rw[hj.2.2 hd,hj.1]at h2;obtain⟨h4,h5⟩:=k1.jstep (T':=v.T) h2 h3;rw[e0]at h4;have hsz:=h5.size
  have husz:=hu.size
  refine⟨⟨_,h1⟩,_,r',h4,fun i e=>?_,(zE (bel_on' hbU hu)).trans (h5.mono (fun i _ e=>⟨_,e⟩)),h5.block _ _ hbx1 (fun e=>by have:=(hE _ ⟨_,e⟩).2;omega)⟩;rcases gr_eo e with e|e
  ·exact⟨.inl e,by have:=(hE i e).2;omega⟩
  ·exact⟨.inr ⟨by omega,e.2⟩,by omega⟩
 have HG:=hide hg0
 have HW:=hide hw
 have HK:=hide k
 have HGD:=hide g
 have HUW:=hide hU
 have HBU:=hide hbU
 rw[hU]at D
 have HTK:Hid (upC v=(idsC (rvC v).L).foldl wkC (rvC v)):=by
  show upC v=_
  unfold upC;rw[if_pos hd];rfl
 have hlnT:v.T.length≤4096:=by have:=g.len;have:=g.r2;omega
 clear hg0 hw k g k0 hbU hU e0 hj
 rw[HTK.out]
 refine callsIn_of_wp_marks Tryz.func21 rfl trivial ?_ rfl
 simp only[Tryz.ntmps21,List.size_toArray,List.length_cons,List.length_nil,Nat.reduceAdd,Nat.reduceSub,Array.replicate_succ,Array.replicate_zero,List.push_toArray,List.append_toArray,List.nil_append,List.cons_append]
 gi_wp2_with fail
 refine⟨trivial,(callsIn_wide.2 D).mono ?_⟩
 rintro e U1 ⟨rfl,hbD⟩
 rw[←HUW.out]at hbD
 obtain⟨⟨cb1,c21⟩,R1⟩:=R.out U1 hbD
 gi_wp2_with fail
 refine⟨trivial,(callsIn_wide.2 R1).mono ?_⟩
 rintro e w1 ⟨⟨x0,rfl⟩,O1,r',k1,hO1,hk1,hbx1⟩
 have d2:=k1.cell3.2.2.1
 have hb1:=hbx1.cell
 have hs01:=hk1.size
 gi_wp2_with fail
 refine⟨trivial,(all_in 4 (by omega) k1.jr).mono ?_⟩
 rintro e w2 ⟨a,c,Bs,rfl,hcb,hla,hbs,hb⟩
 have hs12:=hb.size
 have hL4:(v.T.map lnC).length ≤4096:=k1.jr.2.2.2.2.1
 have hX:∀x∈v.T.map lnC,x.size≤63:=fun x hx=>(k1.jr.2.2.2.2.2 x hx).2
 have hw0:w0.heap.size≤w.heap.size:=HW.out.size
 have hW1:Below w0.heap.size w0 w1:=HW.out.trans (hk1.bel hw0 (fun i _ e=>(hE i e).1))
 have hW2:Below w0.heap.size w0 w2:=bel_on' hW1 hb
 have ES:=Rl.entries_tells 4 (by omega) Bs w1.heap.size w2.heap.size w0 HG.out a c (v.T.map lnC) hL4 hX w2 hcb hla hW2 (zD _)
 have hwh:(wholeD fun s=>Classical.propDecidable (Ok s)) (v.T.map lnC)=(v.T.map lnC).length :=whole_all _ (lines_ok HGD.out)
 obtain⟨E1,hE1⟩:∃E1:Nat→Prop,(fun k=>Eo O1 k)=E1:=⟨_,rfl⟩
 have bE1:∀k,E1 k→(w0.heap.size≤k∧k<w1.heap.size)∧k≠w.heap.size:=fun k e=>by
  rw[←hE1]at e;obtain⟨y,e2⟩:=id e;exact⟨k1.bd y k e2,(hO1 k e).2⟩
 have i0:Rl.Ex (SIc w0 w E1 v p q b bt w2) [] w2:=by
  have k2:=k1.on hb
  refine⟨w2.heap.size,zD _,⟨_,r',loc,k2.exact,fun i ⟨x,e⟩=>⟨⟨.inl ?_,(k2.bd x i e.1).2⟩,e.2⟩⟩,(hb.block _ hbx1.lt).trans hbx1,Rg.Kept.refl _ _,Nat.zero_le _,zD _⟩;rw[←hE1];exact⟨x,e.1⟩
 have HI:=hide i0
 have hbxl:=hbx1.lt
 clear k1 i0 hcb hla hbx1 hb1 d2 hX cb1 c21
 gi_wp2_with fail
 refine Rl.range_tells (I:=SIc w0 w E1 v p q b bt w2) (Ix:=fun _ _ _=>False)
  (Ax:=fun x a' W=>∃Bx,w2.heap.size≤Bx∧W.heap[Bx]?=V (.cells #[.string x.k,.int .i64 x.id,.slice x.av x.l.length x.cv] 104 (0,0))∧
    a'= {tmps:=#[Value.pointer (V {block:=p,off:=0}),Value.pointer (V {block:=w.heap.size,off:=0}),Value.pointer (V {block:=Bx,off:=0}),
     Value.pointer (V {block:=p,off:=0}),Value.bool true,Value.bool false,
     Value.pointer (V {block:=p,off:=0}),Value.pointer (V {block:=p,off:=0}),
     Value.pointer (V {block:=p,off:=2}),Value.pointer (V {block:=q,off:=0}),x0,
     Value.pointer (V {block:=p,off:=0}),Value.pointer (V {block:=p,off:=0}),
     Value.pointer (V {block:=p,off:=2}),Value.pointer (V {block:=q,off:=0}),
     Value.func (Fn.func 185) #[] #[Value.pointer (V {block:=Bs,off:=0})],x.enc,undef,undef,undef,undef,undef],defers:=[]})
  rfl (by omega) (gf:=185) (lb:=#[.pointer (V ⟨Bs,0,H⟩)]) rfl trivial (enters_of Tryz.func185 (by kernel_rfl) rfl) ES
  (fun h k=>h.trans k) (fun W l o o' hl' ho hc=>⟨⟨rfl,rfl,rfl,by simp,fun k hk=>zM (by omega)⟩,fun k _ hk=>zM (by omega)⟩) (fun _=>rfl)
  (fun M pre W l r1 r2 hs hl hr=>SIc.above (by omega) hs (kept_put _ hr ⟨hl,rfl,fun _ _ e=>by cases e⟩)) (fun M pre A B hs hb=>SIc.above (by omega) hs (zE hb)) (fun c s W W' row hs hg hr=>hs.elim) (fun x a'=>?ax) (fun M pre x s W W' row hs hg hr=>⟨good_own _ _ x () W W' row hs.1 hg hr,good_own _ _ x () W W' row hs.2.1 hg hr,hs.2.2⟩) HI.out ?assign ?body ?done ?stop
 case ax=>
  refine ownFrom_kept (fun _ W W' hs hk=>?_);obtain⟨Bx,h0,h1,h2⟩:=hs;exact⟨Bx,h0,hk.block _ _ h1 (fun e=>by cases e.2),h2⟩
 case assign=>
  intro l M pre x W K hI hG hK;have hW7:=hI.2.2.2.2
  have hbA:Below W.heap.size W (W.alloc (.cells #[.string x.k,.int .i64 x.id,.slice x.av x.l.length x.cv] 104)):=(Below.refl _ _).alloc (zD _) _
  have HK':=hK {tmps:=#[Value.pointer (V {block:=p,off:=0}),Value.pointer (V {block:=w.heap.size,off:=0}),Value.pointer (V {block:=W.heap.size,off:=0}),
   Value.pointer (V {block:=p,off:=0}),Value.bool true,Value.bool false,
   Value.pointer (V {block:=p,off:=0}),Value.pointer (V {block:=p,off:=0}),
   Value.pointer (V {block:=p,off:=2}),Value.pointer (V {block:=q,off:=0}),x0,
   Value.pointer (V {block:=p,off:=0}),Value.pointer (V {block:=p,off:=0}),
   Value.pointer (V {block:=p,off:=2}),Value.pointer (V {block:=q,off:=0}),
   Value.func (Fn.func 185) #[] #[Value.pointer (V {block:=Bs,off:=0})],x.enc,undef,undef,undef,undef,undef],defers:=[]} _
   (Rl.keepsLp_below hbA) (Keep.of_below hbA (by omega) hW7) (SIc.above (by omega) hI (zE hbA)) ⟨⟨hG.1.1.below hbA,hG.1.2⟩,⟨hG.2.1.1.below hbA,hG.2.1.2⟩,hG.2.2⟩ ⟨W.heap.size,hW7,zI W _,rfl⟩
  clear hK;unfold Ev.enc at HK' ⊢
  gi_wp2
  exact HK'
 case body=>
  rintro l M pre x a' W hI ⟨Bx,hB0,hbx,rfl⟩ ⟨hGm,hGd,hpr⟩ hlt;obtain⟨⟨Oc,rc,locc,kc,h6⟩,h2,h3,h4,h5⟩:=hI;have hltT:pre.length<v.T.length:=by omega
  obtain⟨e,he⟩:∃e,v.T[pre.length]?=V e:=⟨_,List.getElem?_eq_getElem hltT⟩
  obtain⟨hfit,hgm⟩:=rvN_fit HGD.out he;have hgd:(v.T.map lnC).getD pre.length ByteArray.empty=lnC e:=by simp[List.getD,he]
  rw[hgd]at hpr;obtain⟨ek,ei,el⟩:=hfit.ok.parse hpr;obtain⟨xk,xi,xl,xa,xc⟩:=x;simp only[Ev.enc]at *;subst ek ei el;have hput:putL (rvN v pre.length) (fol (rvN v pre.length).L e)=rvN v (pre.length+1):=by
   rw[←rvN_step he];rfl
  have FW:=(cfollow_any2 kc hgm hfit (nc:=xc) hGm.1.ints (fun hne ad e1 h=>by
   rcases hGm.1 with h0|⟨b',off,e2,e3,_⟩
   ·exact hne h0
   ·rw[e2]at e1;cases e1;have:=(h6 _ h).1.2
    simp only at this;omega)).mono (R':=fun x w'=>(∃y,x=G y)∧Rl.KeepsLp W w'∧Keep w0.heap.size w1.heap.size w2.heap.size W w'∧Rl.Ex (SIc w0 w E1 v p q b bt w2) (pre++ [⟨kC e.k,e.id,e.n,xa,xc⟩]) w') (fun y w' ⟨z1,z2⟩=>by
    rw[hput]at z2;exact⟨z1,SIc.step bE1 (by omega) kc h6 h2 h3 hltT h5 z2⟩)
  have hcb1:=h2.cell
  have e0:W.cell? ⟨Bx,0,H⟩=V (.string (kC e.k)):=by rw[cell_of hbx];rfl
  have e1:W.cell? ⟨Bx,1,H⟩=V (.int .i64 e.id):=by rw[cell_of hbx];rfl
  have e2:W.cell? ⟨Bx,2,H⟩=V (.slice xa e.n.length xc):=by rw[cell_of hbx];rfl
  clear hgd he hGd hpr hGm kc h6 h2 h3 h4 hbx hfit hgm hput;generalize kC e.k=K0 at *;generalize e.id=K1' at *;generalize e.n=K2' at *
  gi_wp2_with fail
  refine⟨trivial,(CallsIn.inRound l (callsIn_wide.2 FW)).mono ?_⟩;rintro y w3 ⟨⟨z,rfl⟩,hz1,hz2,hz3⟩;clear FW
  gi_wp2
  exact⟨hz1,hz2,hz3⟩
 case done=>
  rintro D xs W hD ⟨hlen,-⟩ ⟨M,-,hI⟩ hK;rw[hwh,hln]at hlen;obtain⟨⟨Oc,rc,locc,kc,h6⟩,h2,h3,h4,h5⟩:=hI;rw[hlen,rvN_all]at kc;have hUp:Up w0.heap.size Oc W p (rvC v) q rc b bt locc:=⟨kc,rvC_good HGD.out,rfl⟩
  have hBW:Below w0.heap.size w0 W:=hW2.trans (h3.bel hW2.size (fun i _ e=>(bE1 i e).1.1))
  have WK:=cwake_at HG.out hBW hUp
  have hnD:¬Eo Oc D:=fun e=>by
   rcases(h6 _ e).2 with⟨cs,t,f,h⟩|⟨es,c,h⟩
   ·rw[hK]at h;cases h
   ·rw[hK]at h;cases h
  have FIN:Hid (∀w4,UStp w0.heap.size Oc W p ((idsC (rvC v).L).foldl wkC (rvC v)) q b bt locc w4→w4.heap[D]?=V (.deferred (V []))∧∃O' r' loc',Up w0.heap.size O' (w4.putObj D (.deferred H)) p ((idsC (rvC v).L).foldl wkC (rvC v)) q r' b bt loc'∧(∀i,Eo O' i→growE (Eo O) w (w4.putObj D (.deferred H)) i)∧Rg.Kept (fun i _=>Eo O i) w (w4.putObj D (.deferred H))):=fun w4 ⟨O4,r4,loc4,k4,g4,K4,l4⟩=>by
   have hD4:=K4.block _ _ hK hnD
   have hDl:D<W.heap.size:=(Array.getElem?_eq_some_iff.1 hK).1
   have nD4:¬Eo O4 D:=fun e=>(g4 D e).elim hnD (fun e=>by omega)
   have kp:Rg.Kept (fun i _=>i=D) w4 (w4.putObj D (.deferred H)):=kept_put _ hD4 rfl
   have hsz:=K4.size
   have hsz2:(w4.putObj D (.deferred H)).heap.size =w4.heap.size:=by simp
   refine⟨hD4,O4,r4,loc4,⟨k4.k.kept kp (fun x i o e e2=>nD4 ⟨x,e2▸e⟩),k4.g,k4.d⟩,fun i e=>?_,?_⟩
   ·rcases g4 i e with e2|e2
    ·rcases(h6 i e2).1.1 with e3|e3
     ·rw[←hE1]at e3;exact(hO1 i e3).1.imp id (fun e4=>⟨e4.1,by omega⟩)
     ·obtain⟨y,e4⟩:=e2;have:=(kc.bd y i e4).2
      exact .inr ⟨by omega,by omega⟩
    ·exact .inr ⟨by omega,by omega⟩
   ·have kb:Rg.Kept (fun k _=>Eo O k) w w2:=hk1.trans (zE hb)
    have kW:Rg.Kept (fun k _=>Eo O k) w W:=kept_more kb h3 (fun i o e=>by rw[←hE1]at e;exact(hO1 i e).1.imp id (fun e4=>e4.1))
    have k5:Rg.Kept (fun k _=>Eo O k) w w4:=kept_more kW K4 (fun i o e=>by
     rcases(h6 i e).1.1 with e3|e3
     ·rw[←hE1]at e3;exact(hO1 i e3).1.imp id (fun e4=>e4.1)
     ·exact .inr (by omega))
    exact kept_more k5 kp (fun i o e=> .inr (by omega))
  have hcb:=h2.cell
  clear hUp hBW kc h6 h2 h3 h4 h5 hnD hK
  gi_wp2_with fail
  refine⟨trivial,(callsIn_wide.2 WK).mono ?_⟩;rintro e w4 ⟨⟨x4,rfl⟩,hU4⟩;have HF:=FIN.out w4 hU4
  have hK4:=HF.1
  have HF2:=hide HF.2
  clear HF hU4 WK FIN
  gi_wp2
  refine⟨by simp,.inl ⟨_,_,rfl,run_takeDeferred hK4,?_⟩⟩;exact⟨_,results_none rfl _ _ _,⟨_,rfl⟩,HF2.out⟩
 case stop=>exact fun D c pre W _ _ h _=>h.elim
end
end Go.Proofs.YthfgmpooehkhgaaGreatDoor
namespace Go.Proofs.YthfgmpooehkhgaaGreatDoor
open Go.RowKit Sg Bl
section
variable {w u u':World}{o:Od}{a:Option Addr}{c p:Nat}{O O':Pt→Nat→Prop}{v v':Ch}
end
end Go.Proofs.YthfgmpooehkhgaaGreatDoor
namespace Go.Proofs.YthfgmpooehkhgaaGreatDoor
open Go.ChangeShapes Go.WideShapes Go.ChangeAt Go.RowKit Go.Maps Sg Bl
open Option renaming some→V,none→H
open Go.IntKind renaming i64→S
open Go.Ending renaming returned→G
def Dn(w0:World)(O:Pt→Nat→Prop)(w:World)(p:Nat)(v:Ch):Prop:=(∃q r b bt loc Lq,CkV w0.heap.size O w p v q r b bt loc Lq∧JL Lq v)∧GoodCh v∧v.down=true∧Below w0.heap.size w0 w
section
variable {w0 w w':World}{O O':Pt→Nat→Prop}{p:Nat}{v v':Ch}
theorem Cu.crash(k:Cu w0 O w p v)(stay torn:Int)(hv:crC v stay=v'):
 Calls Tryz.prog 19 #[.pointer (V ⟨p,0,H⟩),.int S stay,.int S torn] w fun e w'=>∃O',(∃x,e=G x)∧Dn w0 O' w' p v'∧Go_ O w O' w':=by
 subst hv
 obtain⟨⟨q,r,b,bt,loc,h⟩,hb⟩:=k
 refine(ccrash_up h stay torn).mono ?_
 rintro e w' ⟨h1,O',r',b',h2,h3,h4⟩
 exact⟨O',h1,⟨⟨q,r',b',bt,_,_,h2,crC_jl h.g (fun x hx=>(h.k.jr.2.2.2.2.2 x hx).1) stay torn⟩,crC_good h.g stay,rfl,hb.trans (h4.bel h.k.low (fun i _ ⟨y,e⟩=>(h.k.bd y i e).1))⟩,h3,h4⟩
theorem Dn.start(hg:Gl w0)(k:Dn w0 O w p v)(hv:upC v=v'):
 Calls Tryz.prog 21 #[.pointer (V ⟨p,0,H⟩)] w fun e w'=>∃O',(∃x,e=G x)∧Cu w0 O' w' p v'∧Go_ O w O' w':=by
 subst hv
 obtain⟨⟨q,r,b,bt,loc,Lq,h1,h2⟩,h3,h4,h5⟩:=k
 refine(cstart_down hg h5 h1 h3 h4 h2).mono ?_
 rintro e w' ⟨e1,O',r',loc',k1,g1,K1⟩
 exact⟨O',e1,⟨⟨q,r',b,bt,loc',k1⟩,h5.trans (K1.bel h1.low (fun i _ ⟨y,e⟩=>(h1.bd y i e).1))⟩,g1,K1⟩
end
def DS(w u:World)(d p m:Nat)(y wh:Bool)(n:Nat):Prop:=∃O c v R,Da w O u d p m c v R∧DmI y wh n v
section
variable {w u u':World}{d p m n:Nat}{y wh:Bool}
theorem DS.on(h:DS w u d p m y wh n)(hb:Below u.heap.size u u'):DS w u' d p m y wh n:=by
 obtain⟨O,c,v,R,h1,h2⟩:=h
 exact⟨O,c,v,R,h1.on hb,h2⟩
theorem DS.le(h:DS w u d p m y wh n){n':Nat}(hn:n≤n'):DS w u d p m y wh n':=by
 obtain⟨O,c,v,R,h1,h2⟩:=h
 exact⟨O,c,v,R,h1,h2.le hn⟩
theorem DS.bel(h:DS w u d p m y wh n):Below w.heap.size w u:=by
 obtain⟨O,c,v,R,h1,h2⟩:=h
 exact h1.1.2
theorem DS.ring(hg:Gl w)(h:DS w u d p m y wh n):Calls Tryz.prog 17 #[.pointer (V ⟨p,0,H⟩),.int S 5] u fun e u'=>(∃z,e=G z)∧DS w u' d p m y wh (n+1):=by
 obtain⟨O,c,v,R,h1,h2⟩:=h
 refine(h1.1.ring hg (id:=5) (by decide) rfl rfl).mono ?_
 rintro e u' ⟨a,c2,O',e1,-,e3,e4⟩
 exact⟨⟨_,e1⟩,O',c,_,R,⟨e3,h1.2.step e4⟩,(h2.rng h1.1.good).le (Nat.le_succ n)⟩
theorem DS.crash(hg:Gl w)(h:DS w u d p m y wh n)(x t:Int):Calls Tryz.prog 19 #[.pointer (V ⟨p,0,H⟩),.int S x,.int S t] u fun e u1=>(∃z,e=G z)∧Calls Tryz.prog 21 #[.pointer (V ⟨p,0,H⟩)] u1 fun e u2=>(∃z,e=G z)∧DS w u2 d p m y wh (n+1):=by
 obtain⟨O,c,v,R,h1,h2⟩:=h
 refine(h1.1.crash x t rfl).mono ?_
 rintro e u1 ⟨O1,e1,e2,e3⟩
 refine⟨e1,(e2.start hg rfl).mono ?_⟩
 rintro e u2 ⟨O2,g1,g2,g3⟩
 exact⟨g1,O2,c,_,R,⟨g2,(h1.2.step e3).step g3⟩,(h2.down h1.1.good x).le (Nat.le_succ n)⟩
theorem DS.hd(hg:Gl w)(h:DS w u d p m y wh n){mm:Mg}(hk:mm.k≠17)(hid:mm.id=5):Calls Tryz.prog 24 #[.pointer (V ⟨p,0,H⟩),.agg #[.int S mm.k,.int S mm.fr,.int S mm.to,.int S mm.id,.int S mm.st,.int S mm.a,.int S mm.b]] u fun e u'=>(∃z,e=G z)∧DS w u' d p m y wh (n+1):=by
 obtain⟨O,c,v,R,h1,h2⟩:=h
 refine(h1.handle hg mm (by rw[hid];decide) rfl).mono ?_
 rintro e u' ⟨a,c2,O',e1,-,e3,e4⟩
 exact⟨⟨_,e1⟩,O',c,_,R,e3,h2.hd h1.1.good hk hid⟩
theorem DS.status(h:DS w u d p m y wh n):Calls Tryz.prog 41 #[.pointer (V ⟨d,0,H⟩),.int S 5] u fun e u'=>e=G (.int S 7)∧DS w u' d p m y wh n:=by
 obtain⟨O,c,v,R,h1,h2⟩:=id h
 exact(h1.status (by decide) (h2.tell h1.1.good R).1).mono (fun _ _ ⟨e1,e2⟩=>⟨e1,h.on e2⟩)
theorem DS.tell(hg:Gl w)(h:DS w u d p m y wh n):Calls Tryz.prog 43 #[.pointer (V ⟨d,0,H⟩),.int S 5] u fun e u'=>e=G (.string (txB (dmT wh)))∧DS w u' d p m y wh n:=by
 obtain⟨O,c,v,R,h1,h2⟩:=id h
 exact(h1.tell hg (by decide) (h2.tell h1.1.good R).2).mono (fun _ _ ⟨e1,e2⟩=>⟨e1,h.on e2⟩)
theorem DS.acc(hg:Gl w)(h:DS w u d p m y wh n)(hn:n≤4000):Calls Tryz.prog 15 #[.pointer (V ⟨p,0,H⟩),.int S 5] u fun e u1=>e=G (.int S 0)∧Calls Tryz.prog 15 #[.pointer (V ⟨p,0,H⟩),.int S 5] u1 fun e u2=>e=G (.int S 7)∧Calls Tryz.prog 41 #[.pointer (V ⟨d,0,H⟩),.int S 5] u2 fun e u3=>(∃s:Int,e=G (.int S s)∧(s != 7)=true)∧Below w.heap.size w u3:=by
 obtain⟨O,c,v,R,h1,h2⟩:=h
 obtain⟨a1,a2,a3,a4⟩:=h2.acc h1.1.good (by omega)
 refine(h1.1.accept hg (id:=5) (by decide) a1 rfl).mono ?_
 rintro e u1 ⟨O1,e1,e2,e3⟩
 refine⟨e1,(e2.accept hg (id:=5) (by decide) a2 a3).mono ?_⟩
 rintro e u2 ⟨O2,g1,g2,g3⟩
 have k2:Da w O2 u2 d p m c (accS v 5) R:=⟨g2,(h1.2.step e3).step g3⟩
 refine⟨g1,(k2.status (id:=5) (by decide) rfl).mono ?_⟩
 rintro e u3 ⟨i1,i2⟩
 exact⟨⟨_,i1,by simpa using a4 R⟩,bel_on' g2.2 i2⟩
end
def Da1(w u:World)(d p m:Nat)(v:Ch):Prop:=∃O c R,Da w O u d p m c v R
theorem Da1.hd{w u:World}{d p m:Nat}{v v':Ch}(hg:Gl w)(h:Da1 w u d p m v)(k f:Int)(hv:(hdSA v ⟨k,f,0,5,0,0,0⟩).1 =v'):Calls Tryz.prog 24 #[.pointer (V ⟨p,0,H⟩),.agg #[.int S k,.int S f,.int S 0,.int S 5,.int S 0,.int S 0,.int S 0]] u fun e u'=>(∃z,e=G z)∧Da1 w u' d p m v':=by
 obtain⟨O,c,R,h1⟩:=h
 refine(h1.handle hg ⟨k,f,0,5,0,0,0⟩ (show(Lit.int S 5).wf =true by decide) hv).mono ?_
 rintro e u' ⟨a,c2,O',e1,-,e3,e4⟩
 exact⟨⟨_,e1⟩,O',c,R,e3⟩
theorem Da1.can{w u:World}{d p m:Nat}{v v':Ch}(hg:Gl w)(h:Da1 w u d p m v)(hv:canS v 5=v'):Calls Tryz.prog 13 #[.pointer (V ⟨p,0,H⟩),.int S 5] u fun e u'=>(∃z,e=G z)∧Da1 w u' d p m v':=by
 obtain⟨O,c,R,h1⟩:=h
 refine(h1.1.cancel hg (id:=5) (by decide) rfl hv rfl).mono ?_
 rintro e u' ⟨a,c2,O',e1,-,e3,e4⟩
 exact⟨⟨_,e1⟩,O',c,R,e3,h1.2.step e4⟩
theorem Da1.sub{w u:World}{O:Pt→Nat→Prop}{d p m:Nat}(hg:Gl w)(h:Da w O u d p m 0 (newCh 3 4096 3) (fun _=>false)):Calls Tryz.prog 39 #[.pointer (V ⟨d,0,H⟩),.agg #[.int S 5,.int S 0,.int S 1,.int S 0,.int S 1,.slice H 0 0]] u fun e u'=>(∃z,e=G z)∧Calls Tryz.prog 38 #[.pointer (V ⟨d,0,H⟩)] u' (fun e u2=>e=G (.pointer (V ⟨p,0,H⟩))∧u'=u2)∧Da1 w u' d p m (begS (newCh 3 4096 3) (ltO 5)):=by
 refine(h.submit hg (by decide) (ltO 5) (sa:=H) (sc:=0) (.inl rfl) (by decide) (by decide) dm_b rfl rfl rfl).mono ?_
 rintro e u' ⟨a,c2,O',e1,-,e3,e4⟩
 exact⟨⟨_,e1⟩,e3.chief,O',1,_,e3⟩
theorem Da1.dmg{w u:World}{d p m:Nat}{y wh:Bool}(hg:Gl w)(h:Da1 w u d p m (dmB y)):Calls Tryz.prog 24 #[.pointer (V ⟨p,0,H⟩),.agg #[.int S 17,.int S (dmW wh),.int S 0,.int S 5,.int S 0,.int S 0,.int S 0]] u fun e u'=>∃b off k c,e=G (.slice (V ⟨b,off,H⟩) k c)∧(0:Int)<((k:Nat):Int)∧u'.cell? ⟨b,off,H⟩=V (.int S 18)∧u'.cell? ⟨b,off+2,H⟩=V (.int S (dmW wh))∧DS w u' d p m y wh 4:=by
 obtain⟨O,c,R,h1⟩:=h
 refine(h1.handle hg ⟨17,dmW wh,0,5,0,0,0⟩ (show(Lit.int S 5).wf =true by decide) rfl).mono ?_
 rintro e u' ⟨a,c2,O',e1,e2,e3,e4⟩
 obtain⟨r,hr⟩:=dm_a y wh
 rw[hr]at e1 e2
 rcases e2.mgs with h2|⟨b,off,rfl,h2⟩
 ·cases h2
 ·exact⟨b,off,_,c2,e1,by simp,h2 0 _ rfl,h2 2 _ rfl,O',c,_,R,e3,dm_new y wh⟩
def loopsOf:Code→List Code
 | .loop c=>[c]
 | .seq a b=>loopsOf a++loopsOf b
 | .block _ c=>loopsOf c
 | .scope c=>loopsOf c
 | .cond _ a b=>loopsOf a++loopsOf b
 |_=>[]
set_option maxRecDepth 1000000 in
def WI(w:World)(l:List C22.Cl)(a1:Option Addr)(cap d p m:Nat)(y wh:Bool)(WD:ByteArray)(g0 g1 g2 g3 g4 g5 g6 g7 g8 g11 g13 g16 g17 g18 g19 g20 g21 g22 g23 g24 g25 g26 g27 g28 g29 g30 g31 g32 g33 g34 g35 g36 g37 g38 g39 g40 g41 g42 g43 g44 g45 g46 g47 g48 g49 g50 g51 g52 g53 g54 g55 g56 g57 g58 g59 g60 g61 g62 g63 g64 g65 g66 g67 g68 g69 g70 g71 g72 g73 g74 g75 g76 g77 g78 g79 g124 g125 g126 g127 g128 g129 g130 g131 g132 g133 g134 g135 g136 g137 g138 g139 g140 g141:Value)(a:Act)(wr:World):Prop:=
 ∃(j:Nat)(g82 g14 g15 g83 g84 g85 g86 g87 g88 g89 g90 g91 g92 g93 g94 g95 g96 g97 g98 g99 g100 g101 g102 g103 g104 g105 g106 g107 g108 g109 g110 g111 g112 g113 g114 g115 g116 g117 g118 g119 g120 g121 g122 g123:Value),g82= .int S j∧j≤l.length∧Hid (DS w wr d p m y wh (4+j))∧a=⟨#[g0,g1,g2,g3,g4,g5,g6,g7,g8,.pointer (V ⟨d,0,H⟩),.pointer (V ⟨p,0,H⟩),g11,.string WD,g13,g14,g15,g16,g17,g18,g19,g20,g21,g22,g23,g24,g25,g26,g27,g28,g29,g30,g31,g32,g33,g34,g35,g36,g37,g38,g39,g40,g41,g42,g43,g44,g45,g46,g47,g48,g49,g50,g51,g52,g53,g54,g55,g56,g57,g58,g59,g60,g61,g62,g63,g64,g65,g66,g67,g68,g69,g70,g71,g72,g73,g74,g75,g76,g77,g78,g79,.slice a1 l.length cap,.int S (l.length:Int),g82,g83,g84,g85,g86,g87,g88,g89,g90,g91,g92,g93,g94,g95,g96,g97,g98,g99,g100,g101,g102,g103,g104,g105,g106,g107,g108,g109,g110,g111,g112,g113,g114,g115,g116,g117,g118,g119,g120,g121,g122,g123,g124,g125,g126,g127,g128,g129,g130,g131,g132,g133,g134,g135,g136,g137,g138,g139,g140,g141],[]⟩
def Wmu(n:Nat)(a:Act)(_:World):Nat:=n-(Go.RowKit.intOf (a.tmps.getD 82 undef)).toNat
def AskP(w:World)(d p m:Nat)(y wh:Bool)(WD:ByteArray)(n:Nat)(T:ByteArray):Prop:=(T.toList==((⟨#[53,58,32,100,97,109,97,103,101,100]⟩:ByteArray)++WD).toList)=true∧T.size≤30∧WD.size≤10∧
 ∀u,DS w u d p m y wh n→Calls Tryz.prog 41 #[.pointer (V ⟨d,0,H⟩),.int S 5] u fun e u'=>e=G (.int S 7)∧Calls Tryz.prog 43 #[.pointer (V ⟨d,0,H⟩),.int S 5] u' fun e u2=>e=G (.string T)∧DS w u2 d p m y wh n
set_option maxRecDepth 1000000 in
set_option maxHeartbeats 8000000 in
theorem dam_3{w:World}{l:List C22.Cl}{cap d p m:Nat}{y wh:Bool}{WD:ByteArray}{g0 g1 g2 g3 g4 g5 g6 g7 g8 g11 g13 g16 g17 g18 g19 g20 g21 g22 g23 g24 g25 g26 g27 g28 g29 g30 g31 g32 g33 g34 g35 g36 g37 g38 g39 g40 g41 g42 g43 g44 g45 g46 g47 g48 g49 g50 g51 g52 g53 g54 g55 g56 g57 g58 g59 g60 g61 g62 g63 g64 g65 g66 g67 g68 g69 g70 g71 g72 g73 g74 g75 g76 g77 g78 g79 g124 g125 g126 g127 g128 g129 g130 g131 g132 g133 g134 g135 g136 g137 g138 g139 g140 g141 g14 g15 g83 g84 g85 g86 g87 g88 g89 g90 g91 g92 g93 g94 g95 g96 g97 g98 g99 g100 g101 g102 g103 g104 g105 g106 g107 g108 g109 g110 g111 g112 g113 g114 g115 g116 g117 g118 g119 g120 g121 g122 g123:Value}{wr:World}{Q0:Exit→Act→World→Prop}{j bb off1 sc:Nat}{cd ci cn ct m0 m1 m2 m3 m4 m5 m6:Int}{oo:Od}{sa:Option Addr}{T:ByteArray}(HG:Hid (Gl w))(hlen:l.length≤9223372036854775807)(hlt:j<l.length)(c0:wr.cell? ⟨bb,off1+j*17,H⟩=V (.int S cd))(c1:wr.cell? ⟨bb,off1+j*17+1,H⟩=V (.int S ci))(c2:wr.cell? ⟨bb,off1+j*17+2,H⟩=V (.int S cn))(c3:wr.cell? ⟨bb,off1+j*17+3,H⟩=V (.int S ct))(c4:wr.cell? ⟨bb,off1+j*17+4,H⟩=V (.int S oo.id))(c5:wr.cell? ⟨bb,off1+j*17+5,H⟩=V (.int S oo.item))(c6:wr.cell? ⟨bb,off1+j*17+6,H⟩=V (.int S oo.qty))(c7:wr.cell? ⟨bb,off1+j*17+7,H⟩=V (.int S oo.client))(c8:wr.cell? ⟨bb,off1+j*17+8,H⟩=V (.int S oo.price))(c9:wr.cell? ⟨bb,off1+j*17+9,H⟩=V (.slice sa oo.steps.length sc))(c10:wr.cell? ⟨bb,off1+j*17+10,H⟩=V (.int S m0))(c11:wr.cell? ⟨bb,off1+j*17+11,H⟩=V (.int S m1))(c12:wr.cell? ⟨bb,off1+j*17+12,H⟩=V (.int S m2))(c13:wr.cell? ⟨bb,off1+j*17+13,H⟩=V (.int S m3))(c14:wr.cell? ⟨bb,off1+j*17+14,H⟩=V (.int S m4))(c15:wr.cell? ⟨bb,off1+j*17+15,H⟩=V (.int S m5))(c16:wr.cell? ⟨bb,off1+j*17+16,H⟩=V (.int S m6))
 (HD2:Hid (DS w wr d p m y wh (4+j))) (hA:AskP w d p m y wh WD (4+(j+1)) T) (e3:cd=3):
 Code.wp Tryz.prog (((Tryz.f6.body.bind (fun c=>(loopsOf c)[1]?)).getD .skip)) (Exit.then (fun a' w''=>WI w l (V ⟨bb,off1,H⟩) cap d p m y wh WD g0 g1 g2 g3 g4 g5 g6 g7 g8 g11 g13 g16 g17 g18 g19 g20 g21 g22 g23 g24 g25 g26 g27 g28 g29 g30 g31 g32 g33 g34 g35 g36 g37 g38 g39 g40 g41 g42 g43 g44 g45 g46 g47 g48 g49 g50 g51 g52 g53 g54 g55 g56 g57 g58 g59 g60 g61 g62 g63 g64 g65 g66 g67 g68 g69 g70 g71 g72 g73 g74 g75 g76 g77 g78 g79 g124 g125 g126 g127 g128 g129 g130 g131 g132 g133 g134 g135 g136 g137 g138 g139 g140 g141 a' w''∧Wmu l.length a' w''<Wmu l.length ⟨#[g0,g1,g2,g3,g4,g5,g6,g7,g8,.pointer (V ⟨d,0,H⟩),.pointer (V ⟨p,0,H⟩),g11,.string WD,g13,g14,g15,g16,g17,g18,g19,g20,g21,g22,g23,g24,g25,g26,g27,g28,g29,g30,g31,g32,g33,g34,g35,g36,g37,g38,g39,g40,g41,g42,g43,g44,g45,g46,g47,g48,g49,g50,g51,g52,g53,g54,g55,g56,g57,g58,g59,g60,g61,g62,g63,g64,g65,g66,g67,g68,g69,g70,g71,g72,g73,g74,g75,g76,g77,g78,g79,.slice (V ⟨bb,off1,H⟩) l.length cap,.int S (l.length:Int),.int S (j:Int),g83,g84,g85,g86,g87,g88,g89,g90,g91,g92,g93,g94,g95,g96,g97,g98,g99,g100,g101,g102,g103,g104,g105,g106,g107,g108,g109,g110,g111,g112,g113,g114,g115,g116,g117,g118,g119,g120,g121,g122,g123,g124,g125,g126,g127,g128,g129,g130,g131,g132,g133,g134,g135,g136,g137,g138,g139,g140,g141],[]⟩ wr) Q0) ⟨#[g0,g1,g2,g3,g4,g5,g6,g7,g8,.pointer (V ⟨d,0,H⟩),.pointer (V ⟨p,0,H⟩),g11,.string WD,g13,g14,g15,g16,g17,g18,g19,g20,g21,g22,g23,g24,g25,g26,g27,g28,g29,g30,g31,g32,g33,g34,g35,g36,g37,g38,g39,g40,g41,g42,g43,g44,g45,g46,g47,g48,g49,g50,g51,g52,g53,g54,g55,g56,g57,g58,g59,g60,g61,g62,g63,g64,g65,g66,g67,g68,g69,g70,g71,g72,g73,g74,g75,g76,g77,g78,g79,.slice (V ⟨bb,off1,H⟩) l.length cap,.int S (l.length:Int),.int S (j:Int),g83,g84,g85,g86,g87,g88,g89,g90,g91,g92,g93,g94,g95,g96,g97,g98,g99,g100,g101,g102,g103,g104,g105,g106,g107,g108,g109,g110,g111,g112,g113,g114,g115,g116,g117,g118,g119,g120,g121,g122,g123,g124,g125,g126,g127,g128,g129,g130,g131,g132,g133,g134,g135,g136,g137,g138,g139,g140,g141],[]⟩ wr:=by
 have ql:(j:Int)<(l.length:Int):=by omega
 obtain⟨hq,hs1,hs2,hst⟩:=hA
 have ST:=hide hst
 clear hst
 have HBV:Hid (Below wr.heap.size wr (wr.alloc (.cells #[.int S cd,.int S ci,.int S cn,.int S ct,.int S oo.id,.int S oo.item,.int S oo.qty,.int S oo.client,.int S oo.price,.slice sa oo.steps.length sc,.int S m0,.int S m1,.int S m2,.int S m3,.int S m4,.int S m5,.int S m6] 36))):=(Below.refl _ _).alloc (Nat.le_refl _) _
 have HDV:=hide (HD2.out.on HBV.out)
 clear HD2
 subst e3
 have C:=HDV.out.ring HG.out
 conv=>arg 2;whnf
 go_wp2_with(first
  |(go_at_call 17;refine C.mono ?_;clear C;rintro e v5 ⟨⟨z5,rfl⟩,h1⟩;have S5:=ST.out _ h1;clear h1 ST)
  |(go_at_call 41;refine S5.mono ?_;clear S5;rintro e v7 ⟨rfl,h1⟩;have T5:=h1;clear h1)
  |(go_at_call 43;refine T5.mono ?_;clear T5;rintro e v8 ⟨rfl,h1⟩;have HZ:=hide h1;clear h1))
 refine⟨⟨j+1,_,_,_,_,_,_,_,_,_,_,_,_,_,_,_,_,_,_,_,_,_,_,_,_,_,_,_,_,_,_,_,_,_,_,_,_,_,_,_,_,_,_,_,_,by go_num,by omega,HZ,rfl⟩,?_⟩
 simp[Wmu,Go.RowKit.intOf]
 omega
end Go.Proofs.YthfgmpooehkhgaaGreatDoor
