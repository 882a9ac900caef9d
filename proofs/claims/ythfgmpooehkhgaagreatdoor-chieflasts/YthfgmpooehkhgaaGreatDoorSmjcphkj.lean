import Derived.Test.YthfgmpooehkhgaaGreatDoorSmoinegg
import Derived.Test.YthfgmpooehkhgaaGreatDoorSmfahlfo
import Derived.Test.YthfgmpooehkhgaaGreatDoorSmobpfcj
import Derived.Test.YthfgmpooehkhgaaGreatDoorSmjihkle
import Derived.Test.YthfgmpooehkhgaaGreatDoorSmkmhjnk
namespace Go.Proofs.YthfgmpooehkhgaaGreatDoor
open Go.ChangeShapes Go.WideShapes Go.ChangeAt Go.RowKit Go.Shelf Go.Maps Sg Bl
open Nat renaming le_refl→zD,le_trans→zK
attribute [local go_sem] Oper.semAt_some
def cutsH(h:Int→Int)(L:List Int):Int→Int:=L.foldl cutH h
theorem cuts_at:∀(L:List Int)(h:Int→Int)(x:Int),cutsH h L x=if x∈L then 0 else h x
 | [],h,x=>by simp[cutsH]
 |y::L,h,x=>by
  show cutsH (cutH h y) L x=_
  rw[cuts_at L];by_cases h1:x∈L
  ·rw[if_pos h1,if_pos (by simp[h1])]
  ·rw[if_neg h1];by_cases h2:x=y
   ·subst h2;rw[if_pos (by simp)];exact Bl.upd_same _ _ _
   ·rw[if_neg (by simp[h1,h2])];exact Bl.upd_other _ _ h2
theorem cuts_snoc(h:Int→Int)(L:List Int)(x:Int):cutsH h (L++ [x])=cutH (cutsH h L) x:=by unfold cutsH;rw[List.foldl_append];rfl
theorem cuts_all{t:Int}{h:Int→Int}(g:GoodT t h):cutsH h (idsL h)=fun _=>0:=by
 funext x
 rw[cuts_at]
 split
 ·rfl
 ·rename_i h1;cases e:decide (h x=0)with
  |true=>exact of_decide_eq_true e
  |false=>exact absurd ((mem_idsL g.at_ x).2 (of_decide_eq_false e)) h1
def FgI(B:Nat)(E:Nat→Prop)(w w1:World)(p bt b':Nat)(t:Int)(h:Int→Int)(m r:Int)(qv:Value)(pre:List Int)(W:World):Prop:=
 Bt B E W bt t (cutsH h pre) 999∧W.heap[p]?=some (.cells #[.int .i64 m,.int .i64 r,qv,.map (some b'),.pointer (some ⟨bt,0,none⟩)] 94 (0,0))∧Gd.Pu.Pa.Mx ptX Tryz.prog 3 W b' 999 (fun _=>none)∧Boxed W w.heap.size 25 (.pointer (some ⟨p,0,none⟩))∧Rg.Kept (fun i _=>E i) w1 W
theorem FgI.kept{B:Nat}{E:Nat→Prop}{w w1 W W':World}{p bt b':Nat}{t:Int}{h:Int→Int}{m r:Int}{qv:Value}{pre:List Int}{F:Nat→Obj→Prop}(hE:∀k,E k→k<w.heap.size)(hp:p<w.heap.size)(hs:w.heap.size<w1.heap.size)(hb:b'<w1.heap.size)(k:FgI B E w w1 p bt b' t h m r qv pre W)(hk:Rg.Kept F W W')(hF:∀k o,F k o→w1.heap.size≤k):FgI B E w w1 p bt b' t h m r qv pre W':=by
 obtain⟨k1,k2,k3,k4,k5⟩:=k
 have far:∀k o,k<w1.heap.size→¬F k o:=fun k o hl e=>by have:=hF k o e;omega
 exact⟨k1.kept hk (fun k o e=>far k o (by have:=hE k e;omega)),hk.block _ _ k2 (far p _ (by omega)),k3.kept hk (fun o=>far b' o hb),hk.block _ _ k4 (far _ _ hs),⟨hk.os.trans k5.os,hk.tape.trans k5.tape,hk.output.trans k5.output,zK k5.size hk.size,fun k o ho hx=>hk.block k o (k5.block k o ho hx) (far k o (Array.getElem?_eq_some_iff.1 ho).1)⟩⟩
theorem FgI.own{B:Nat}{E:Nat→Prop}{w w1:World}{p bt b':Nat}{t:Int}{h:Int→Int}{m r:Int}{qv:Value}(hE:∀k,E k→k<w.heap.size)(hp:p<w.heap.size)(hs:w.heap.size<w1.heap.size)(hb:b'<w1.heap.size):OwnFrom w1.heap.size (FgI B E w w1 p bt b' t h m r qv):=fun _ _ _ row hs' hg hr=>
 hs'.kept hE hp hs hb (F:=fun i _=>row=some i) (Rg.Kept.grown hg (fun _ _ e=>e)) (fun k _ e=>(hr k e).1)
set_option maxRecDepth 100000 in
set_option maxHeartbeats 1000000 in
theorem cforget_any{B:Nat}{E:Nat→Prop}{w:World}{p bt:Nat}{t:Int}{h:Int→Int}{m r:Int}{qv x3:Value}(hb:w.heap[p]?=some (.cells #[.int .i64 m,.int .i64 r,qv,x3,.pointer (some ⟨bt,0,none⟩)] 94 (0,0)))(kb:Bt B E w bt t h 999)(hp:¬E p):
 Calls Tryz.prog 52 #[.pointer (some ⟨p,0,none⟩)] w fun e w'=>(∃x,e= .returned x)∧∃b',(w.heap.size≤b'∧b'<w'.heap.size)∧w'.heap[p]?=some (.cells #[.int .i64 m,.int .i64 r,qv,.map (some b'),.pointer (some ⟨bt,0,none⟩)] 94 (0,0))∧Gd.Pu.Pa.Mx ptX Tryz.prog 3 w' b' 999 (fun _=>none)∧Bt B E w' bt t (fun _=>0) 999∧Rg.Kept (fun i _=>i=p∨E i) w w':=by
 refine(callsIn_wide (n:=5)).1 ?_
 have hpl:p<w.heap.size:=(Array.getElem?_eq_some_iff.1 hb).1
 have hEl:∀k,E k→k<w.heap.size:=fun k e=>(kb.1 k e).2
 obtain⟨W0,hW0⟩:∃W0,W0=w.setCell ⟨p,3,none⟩ (.map (some (w.heap.size+1))):=⟨_,rfl⟩
 obtain⟨W1,hW1⟩:∃W1,W1=W0.alloc (.cells #[.pointer (some ⟨p,0,none⟩)] 25):=⟨_,rfl⟩
 obtain⟨U,hU⟩:∃U,U=W1.alloc (.map #[] 0):=⟨_,rfl⟩
 have z0:W0.heap.size=w.heap.size:=by rw[hW0];simp
 have z1:W1.heap.size=w.heap.size+1:=by rw[hW1];simp[z0]
 have zU:U.heap.size=w.heap.size+2:=by rw[hU];simp[z1]
 have k0:Rg.Kept (fun i _=>i=p) w W0:=by rw[hW0];exact Rg.Kept.setCell (a:=⟨p,3,none⟩) _ (fun _=>rfl)
 have hb2:Below W0.heap.size W0 U:=by rw[hU,hW1];exact((Below.refl _ _).alloc (zD _) _).alloc (by simp) _
 have hp0:W0.heap[p]?=some (.cells #[.int .i64 m,.int .i64 r,qv,.map (some (w.heap.size+1)),.pointer (some ⟨bt,0,none⟩)] 94 (0,0)):=by
  rw[hW0,heap_setCell_same _ _ _ _ _ _ hb];rfl
 have hpU:=(hb2.block p (by omega)).trans hp0
 have hbxU:Boxed U w.heap.size 25 (.pointer (some ⟨p,0,none⟩)):=by
  show U.heap[w.heap.size]?=_
  rw[hU,hW1,←z0];exact(Below.heap_alloc _ _ _ (by simp)).trans (World.alloc_heap_new W0 _)
 have kU:Rg.Kept (fun i _=>i=p∨E i) w U:=(k0.mono (fun _ _ e=> .inl e)).trans (Rg.Kept.of_below hb2)
 have kbU:Bt B E U bt t h 999:=(kb.kept k0 (fun k _ e e2=>hp (e2▸e))).on hb2
 have mU:Gd.Pu.Pa.Mx ptX Tryz.prog 3 U (w.heap.size+1) 999 (fun _=>none):=by
  have h1:=(Gd.Pu.Pa.Mx.new ptX Tryz.prog 3 W1).mono (show 0≤999 by decide)
  rw[←hU,z1]at h1;exact h1
 have f3:w.frozen? ⟨p,3,none⟩=false:=frozen_of_row _ _ _ _ _ hb
 have c3:w.cell? ⟨p,3,none⟩=some x3:=by rw[cell_of hb];rfl
 have c4:w.cell? ⟨p,4,none⟩=some (.pointer (some ⟨bt,0,none⟩)):=by rw[cell_of hb];rfl
 have hne:w.heap.size≠p:=by omega
 have IDS:=(callsIn_wide (n:=4)).2 (bids_any kbU (by decide))
 have GT:=kb.2.2.1
 have HL:Hid ((idsL h).length ≤1000000):=by
  have:(idsL h).length ≤1000:=idsTo_len h 1000
  show(idsL h).length ≤1000000
  omega
 rw[hW1,hW0]at hU
 have HU:=hide hU
 rw[hU]at IDS
 have HF:=hide (And.intro kbU (And.intro hpU (And.intro mU hbxU)))
 have HK:=hide kU
 clear hb kb hb2 hp0 k0 hbxU hpU kU kbU mU hU z0 z1 hW0 hW1
 have hmm:=@run_makeMap Tryz.prog
 have hnf:∀(u:World)(b:Nat),(binOp BinOp.eql 141 (.func (.func 202) #[] #[.pointer (some ⟨b,0,none⟩)]) .nilFunc).run Tryz.prog u= .ok (.bool false) u:=fun _ _=>by kernel_rfl
 refine callsIn_of_wp_marks Tryz.func52 rfl trivial ?_ rfl
 simp only[Tryz.ntmps52,List.size_toArray,List.length_cons,List.length_nil,Nat.reduceAdd,Nat.reduceSub,Array.replicate_succ,Array.replicate_zero,List.push_toArray,List.append_toArray,List.nil_append,List.cons_append]
 gi_wp2_with fail
 refine⟨trivial,IDS.mono ?_⟩
 rintro e w1 ⟨Bi,v0,rfl,hb1,hit,hbi,hvr⟩
 rw[←HU.out]at hb1 hbi hvr
 clear IDS
 have hs1:=hb1.size
 obtain⟨kbU,hpU,mU,hbxU⟩:=HF.out
 have i0:FgI B E w w1 p bt (w.heap.size+1) t h m r qv [] w1:=⟨kbU.on hb1,(hb1.block _ (by omega)).trans hpU,mU.on hb1,(hb1.block _ (by omega)).trans hbxU,Rg.Kept.refl _ _⟩
 have hno:NoE (fun k _=>E k) Bi v0:=⟨fun cs f e=>by have:=hEl _ e;omega,fun k hk o e=>by have:=hvr k hk;have:=hEl _ e;omega⟩
 have ES:=bell_seq (E:=fun k _=>E k) HL.out hit hno (fun k o h1 e=>by have:=hEl _ e;omega)
 have HK1:Hid (Rg.Kept (fun i _=>i=p∨E i) w w1):=HK.out.trans (Rg.Kept.of_below hb1)
 have HI:=hide i0
 clear hb1 hit hno hbi hvr kbU hpU mU hbxU i0 HF HK f3 c3 c4
 gi_wp2_with fail
 refine Rg.range_acts (E:=fun k _=>E k) (enc:=encI) (L:=idsL h) (I:=FgI B E w w1 p bt (w.heap.size+1) t h m r qv) (Ix:=fun _ _ _=>False)
  (Ax:=fun x a' _=>a'= {tmps:=#[.pointer (some ⟨p,0,none⟩),.pointer (some ⟨w.heap.size,0,none⟩),.int .i64 x,.pointer (some ⟨p,0,none⟩),.map (some (w.heap.size+1)),.pointer (some ⟨p,0,none⟩),.pointer (some ⟨p,3,none⟩),.pointer (some ⟨p,0,none⟩),.pointer (some ⟨p,0,none⟩),.pointer (some ⟨p,4,none⟩),.pointer (some ⟨bt,0,none⟩),.func (.func 202) #[] #[.pointer (some ⟨Bi,0,none⟩)],.int .i64 x,undef,undef,undef,undef,undef,undef],defers:=[]})
  (gf:=202) (lb:=#[.pointer (some ⟨Bi,0,none⟩)]) rfl (enters_of Tryz.func202 (by kernel_rfl) rfl) ES (fun k o h1 h2 h3=>by have:=hEl _ h3;omega) rfl
  (FgI.own hEl hpl (by omega) (by omega)) (fun c' W0 W W' row hs hg hr=>hs.elim) (fun x a'=>?ax) HI.out ?assign ?body ?done ?stop
 case ax=>
  intro _ W W' row hs hg hr;exact hs
 case assign=>
  intro l pre x W K hI hK;have HK:=hK {tmps:=#[.pointer (some ⟨p,0,none⟩),.pointer (some ⟨w.heap.size,0,none⟩),.int .i64 x,.pointer (some ⟨p,0,none⟩),.map (some (w.heap.size+1)),.pointer (some ⟨p,0,none⟩),.pointer (some ⟨p,3,none⟩),.pointer (some ⟨p,0,none⟩),.pointer (some ⟨p,0,none⟩),.pointer (some ⟨p,4,none⟩),.pointer (some ⟨bt,0,none⟩),.func (.func 202) #[] #[.pointer (some ⟨Bi,0,none⟩)],.int .i64 x,undef,undef,undef,undef,undef,undef],defers:=[]} _ (Rg.Kept.refl _ _) hI rfl
  clear hK;unfold encI at HK ⊢
  gi_wp2
  exact HK
 case body=>
  rintro l pre x a' W hI rfl hpq;obtain⟨k1,k2,k3,k4,k5⟩:=hI;have hx:1≤x∧x≤999:=by
   obtain⟨q,hq⟩:=hpq;have:x∈idsL h:=by rw[←hq];simp
   exact GT.at_ x ((mem_idsL GT.at_ x).1 this)
  have CU:=(bcut_any k1 (wf_id hx.1 hx.2)).mono (R':=fun e w'=>(∃y,e= .returned y)∧Rg.Kept (fun k _=>E k) W w'∧FgI B E w w1 p bt (w.heap.size+1) t h m r qv (pre++ [x]) w') (fun e w' ⟨g1,g2,g3⟩=>by
   refine⟨⟨_,g1⟩,g3,?_,g3.block _ _ k2 hp,k3.kept g3 (fun _ e=>by have:=hEl _ e;omega),g3.block _ _ k4 (fun e=>by have:=hEl _ e;omega),k5.trans g3⟩;rw[cuts_snoc];exact bt_tight g2)
  have c1:=k4.cell
  have c4:W.cell? ⟨p,4,none⟩=some (.pointer (some ⟨bt,0,none⟩)):=by rw[cell_of k2];rfl
  clear k1 k2 k3 k4 k5 hpq hx
  gi_wp2_with fail
  refine⟨trivial,rfl,(CallsIn.inRound l (callsIn_wide.2 CU)).mono ?_⟩;rintro y w3 ⟨⟨z,rfl⟩,hz1,hz2⟩;clear CU
  gi_wp2
  exact⟨hz1,hz2⟩
 case done=>
  rintro D W hD hI hK;obtain⟨k1,k2,k3,k4,k5⟩:=hI.kept hEl hpl (by omega) (by omega) (F:=fun i _=>i=D) (Rg.Kept.putObj (W:=W) (.deferred none) (fun _=>rfl)) (fun k _ e=>by omega);have FIN:Hid (∃b',(w.heap.size≤b'∧b'<(W.putObj D (.deferred none)).heap.size)∧(W.putObj D (.deferred none)).heap[p]?=some (.cells #[.int .i64 m,.int .i64 r,qv,.map (some b'),.pointer (some ⟨bt,0,none⟩)] 94 (0,0))∧Gd.Pu.Pa.Mx ptX Tryz.prog 3 (W.putObj D (.deferred none)) b' 999 (fun _=>none)∧Bt B E (W.putObj D (.deferred none)) bt t (fun _=>0) 999∧Rg.Kept (fun i _=>i=p∨E i) w (W.putObj D (.deferred none))):=
   ⟨w.heap.size+1,⟨by omega,k3.lt⟩,k2,k3,by rw[cuts_all GT]at k1;exact k1,HK1.out.trans (k5.mono (fun _ _ e=> .inr e))⟩
  clear k1 k2 k3 k4 k5
  gi_wp2
  refine⟨by simp,.inl ⟨_,_,rfl,run_takeDeferred hK,?_⟩⟩;exact⟨_,results_none rfl _ _ _,⟨_,rfl⟩,FIN.out⟩
 case stop=>exact fun D c pre W _ _ _ h _=>h.elim
theorem bt_low{B B':Nat}{E:Nat→Prop}{w:World}{p:Nat}{t:Int}{h:Int→Int}{n:Nat}(k:Bt B E w p t h n)(hB:B'≤B):Bt B' E w p t h n:=⟨fun i e=>⟨zK hB (k.1 i e).1,(k.1 i e).2⟩,k.2⟩
def MadeC(w:World)(v:Ch)(e:Ending)(w':World):Prop:=
 ∃O p q r b bt loc,e= .returned (.pointer (some ⟨p,0,none⟩))∧Up w.heap.size O w' p v q r b bt loc∧Below w.heap.size w w'
theorem madec_of{w w1 w2 w3 w4:World}{orders room tries:Int}{x3:Value}{b':Nat}(h1:w1=w.alloc (.cells #[.int .i64 (roomV room),.slice none 0 0,.int .i64 0,.bool false] 159))
 (hb2:Below w1.heap.size w1 w2) (hz2:w1.heap.size<w2.heap.size) (h3:w3=w2.alloc (.cells #[.int .i64 (mostC orders),.int .i64 (roomV room),.pointer (some ⟨w.heap.size,0,none⟩),x3,.pointer (some ⟨w1.heap.size,0,none⟩)] 94))
 (hb':w3.heap.size≤b'∧b'<w4.heap.size) (hp:w4.heap[w2.heap.size]?=some (.cells #[.int .i64 (mostC orders),.int .i64 (roomV room),.pointer (some ⟨w.heap.size,0,none⟩),.map (some b'),.pointer (some ⟨w1.heap.size,0,none⟩)] 94 (0,0)))
 (hm:Gd.Pu.Pa.Mx ptX Tryz.prog 3 w4 b' 999 (fun _=>none)) (hbt:Bt w1.heap.size (fun k=>k=w1.heap.size) w4 w1.heap.size (clampT tries) (fun _=>0) 999) (hk:Rg.Kept (fun i _=>i=w2.heap.size∨i=w1.heap.size) w3 w4):
 MadeC w (newCh orders room tries) (.returned (.pointer (some ⟨w2.heap.size,0,none⟩))) w4:=by
 have z1:w1.heap.size=w.heap.size+1:=by rw[h1];simp
 have z3:w3.heap.size=w2.heap.size+1:=by rw[h3];simp
 have hb1:Below w.heap.size w w1:=by rw[h1];exact(Below.refl _ _).alloc (zD _) _
 have hb3:Below w2.heap.size w2 w3:=by rw[h3];exact(Below.refl _ _).alloc (zD _) _
 have j0:Jr w.heap.size w1 w.heap.size (.slice none 0 0) (roomV room) [] 0 false:=by
  rw[h1];exact Jr.new w w.heap.size (zD _) (roomV room) (roomV_in room).1 (roomV_in room).2
 have j4:=(j0.on (bel_on' hb2 hb3)).kept hk (fun _ e=>by omega) (fun k _ e=>by simp[Value.ownBlock]at e)
 have s4:=hk.size
 refine⟨fun x k=>match x with
  | .inl 0=>k=w2.heap.size
  | .inl 1=>k=w.heap.size
  | .inl 2=>k=w1.heap.size
  | .inl 3=>k=b'
  | .inl _=>False
  | .inr _=>False,w2.heap.size,w.heap.size,.slice none 0 0,b',w1.heap.size,fun _=>none,rfl,⟨⟨fun x k e=>?_,fun x y k e1 e2=>?_,rfl,hp,j4,rfl,(fun k e=>by simp[Value.ownBlock]at e),bt_low hbt (by omega),hm,rfl,(fun id l e=>by cases e),fun _ _=>rfl⟩,newCh_good _ _ _,rfl⟩,?_⟩
 ·rcases x with(_|_|_|_|x)|x
  all_goals first|exact False.elim e|(have e:k=_:=e;omega)
 ·rcases x with(_|_|_|_|x)|x
  all_goals rcases y with(_|_|_|_|y)|y
  all_goals first|rfl|exact False.elim e1|exact False.elim e2|(have e1:k=_:=e1;have e2:k=_:=e2;omega)
 ·refine(bel_on' hb1 (bel_on' hb2 hb3)).trans (hk.bel ?_ (fun k _ e=>?_))
  ·omega
  ·omega
set_option maxHeartbeats 1000000 in
theorem cnew_any(orders room tries:Int)(w:World):
 Calls Tryz.prog 9 #[.int .i64 orders,.int .i64 room,.int .i64 tries] w (MadeC w (newCh orders room tries)):=by
 have N:=new_any room w
 have FX:Hid (∀w1 w2,w1=w.alloc (.cells #[.int .i64 (roomV room),.slice none 0 0,.int .i64 0,.bool false] 159)→Below w1.heap.size w1 w2→Bt w1.heap.size (fun k=>k=w1.heap.size) w2 w1.heap.size (clampT tries) (fun _=>0) 0→∀x3 w3,w3=w2.alloc (.cells #[.int .i64 (mostC orders),.int .i64 (roomV room),.pointer (some ⟨w.heap.size,0,none⟩),x3,.pointer (some ⟨w1.heap.size,0,none⟩)] 94)→Calls Tryz.prog 52 #[.pointer (some ⟨w2.heap.size,0,none⟩)] w3 fun e w'=>(∃x,e= .returned x)∧MadeC w (newCh orders room tries) (.returned (.pointer (some ⟨w2.heap.size,0,none⟩))) w'):=fun w1 w2 h1 h2 hbt x3 w3 h3=>by
  have hz:=(hbt.1 w1.heap.size rfl).2
  have hb3:Below w2.heap.size w2 w3:=by rw[h3];exact(Below.refl _ _).alloc (zD _) _
  have hp3:w3.heap[w2.heap.size]?=some (.cells #[.int .i64 (mostC orders),.int .i64 (roomV room),.pointer (some ⟨w.heap.size,0,none⟩),x3,.pointer (some ⟨w1.heap.size,0,none⟩)] 94 (0,0)):=by rw[h3];exact World.alloc_heap_new w2 _
  refine(cforget_any hp3 (bt_tight (hbt.on hb3)) (fun e=>by omega)).mono ?_;rintro e w4 ⟨g1,b',g2,g3,g4,g5,g6⟩;exact⟨g1,madec_of h1 h2 hz h3 g2 g3 g4 g5 g6⟩
 have BN:=fun W=>bnew_any tries W
 unfold mostC roomV at FX
 unfold roomV at N
 generalize newCh orders room tries=v0 at *
 generalize clampT tries=ct at *
 go_enter Tryz.func9,Tryz.ntmps9
 go_wp2_with(first
  |(go_at_call 50;refine N.mono ?_;clear N;rintro e w1 ⟨rfl,h1⟩;have HW1:=hide h1;clear h1)
  |(go_at_call 51;refine(BN _).mono ?_;clear BN;rintro e w2 ⟨pb,rfl,rfl,hbt,hb2⟩;have FY:=FX.out _ w2 HW1.out hb2 hbt;clear hbt hb2 FX)
  |(go_at_call 52;refine(FY _ _ rfl).mono ?_;clear FY;rintro e w4 ⟨⟨y,rfl⟩,hm⟩;have HX:=hide hm;clear hm))
 go_ret
 exact HX.out
end Go.Proofs.YthfgmpooehkhgaaGreatDoor
namespace Go.Proofs.YthfgmpooehkhgaaGreatDoor
open Go.ChangeShapes Go.WideShapes Go.ChangeAt Go.RowKit Go.Maps Sg Bl
theorem jr_low{B B':Nat}{w:World}{p:Nat}{v:Value}{room:Int}{L:List ByteArray}{sure:Nat}{down:Bool}(h:Jr B w p v room L sure down)(hB:B'≤B):Jr B' w p v room L sure down:=⟨h.1,Nat.le_trans hB h.2.1,own_low h.2.2.1 hB,h.2.2.2⟩
def Cu(w0:World)(O:Pt→Nat→Prop)(w:World)(p:Nat)(v:Ch):Prop:=(∃q r b bt loc,Up w0.heap.size O w p v q r b bt loc)∧Below w0.heap.size w0 w
def AnC(w:World)(O:Pt→Nat→Prop)(a:Option Addr)(c:Nat)(xs:List Mg):Prop:=(∃B0,w.ownsRow B0 34 7 (.slice a xs.length c) xs.length (mgCells xs))∧∀ad,a=some ad→¬Eo O ad.block
def Abc(w:World)(O:Pt→Nat→Prop)(k:Nat)(o:Obj):Prop:=w.heap[k]?=some o∧¬Eo O k
def Go_(O:Pt→Nat→Prop)(w:World)(O':Pt→Nat→Prop)(w':World):Prop:=(∀i,Eo O' i→growE (Eo O) w w' i)∧Rg.Kept (fun i _=>Eo O i) w w'
section
variable {w0 w w':World}{O O':Pt→Nat→Prop}{p:Nat}{v v':Ch}
theorem Go_.of_below(hb:Below w.heap.size w w'):Go_ O w O w':=⟨fun _ e=> .inl e,Rg.Kept.of_below hb⟩
theorem Cu.on(k:Cu w0 O w p v)(hb:Below w.heap.size w w'):Cu w0 O w' p v:=by
 obtain⟨⟨q,r,b,bt,loc,h⟩,h2⟩:=k
 exact⟨⟨q,r,b,bt,loc,h.on hb⟩,bel_on' h2 hb⟩
theorem Cu.good(k:Cu w0 O w p v):GoodCh v:=by
 obtain⟨⟨q,r,b,bt,loc,h⟩,_⟩:=k
 exact h.g
theorem Cu.lt(k:Cu w0 O w p v){i:Nat}(e:Eo O i):w0.heap.size≤i∧i<w.heap.size:=by
 obtain⟨⟨q,r,b,bt,loc,h⟩,_⟩:=k
 obtain⟨y,e⟩:=e
 exact h.k.bd y i e
theorem Cu.gl(hg:Gl w0)(k:Cu w0 O w p v):∀u,Rg.Kept (fun i _=>Eo O i) w u→Gl u:=fun _ h=>hg.on (k.2.trans (h.bel (by obtain⟨⟨q,r,b,bt,loc,h1⟩,_⟩:=k;exact h1.k.low) (fun i _ e=>(k.lt e).1)))
theorem Abc.step{k:Nat}{o:Obj}(h:Abc w O k o)(g:Go_ O w O' w'):Abc w' O' k o:=
 ⟨g.2.block _ _ h.1 h.2,fun e=>(g.1 k e).elim h.2 (fun e=>by have:=(Array.getElem?_eq_some_iff.1 h.1).1;omega)⟩
theorem Abc.on{k:Nat}{o:Obj}(h:Abc w O k o)(hb:Below w.heap.size w w'):Abc w' O k o:=h.step (Go_.of_below hb)
theorem AnC.step{a:Option Addr}{c:Nat}{xs:List Mg}(h:AnC w O a c xs)(g:Go_ O w O' w'):AnC w' O' a c xs:=by
 obtain⟨⟨B0,h1⟩,h2⟩:=h
 refine⟨⟨B0,own_keptR h1 g.2 (fun k _ e=>by obtain⟨x,e3,rfl⟩:=own_some e;exact h2 x e3)⟩,fun ad e e2=>?_⟩
 rcases g.1 _ e2 with e3|e3
 ·exact h2 ad e e3
 ·have:=(h1.lt ad.block (by rw[e];rfl)).2
  omega
theorem AnC.on{a:Option Addr}{c:Nat}{xs:List Mg}(h:AnC w O a c xs)(hb:Below w.heap.size w w'):AnC w' O a c xs:=h.step (Go_.of_below hb)
theorem AnC.mgs{a:Option Addr}{c:Nat}{xs:List Mg}(h:AnC w O a c xs):Mgs w a xs:=by
 obtain⟨⟨B0,h1⟩,_⟩:=h
 exact row_mgs h1
theorem SendR.cu{q b bt:Nat}{loc:Int→Option Nat}(k:Cu w0 O w p v){v2:Ch}{xs:List Mg}{e:Ending}(h:SendR w0.heap.size O w p v2 q b bt loc xs e w'):∃a c O',e= .returned (.slice a xs.length c)∧AnC w' O' a c xs∧Cu w0 O' w' p v2∧Go_ O w O' w':=by
 obtain⟨ra,rc,O1,r1,loc1,h1,h2,h3,h4,h5,h6,h7⟩:=h
 exact⟨ra,rc,O1,h1,⟨⟨_,h2⟩,h3⟩,⟨⟨q,r1,b,bt,loc1,h4⟩,k.2.trans (h6.bel (by obtain⟨⟨q,r,b,bt,loc,h1⟩,_⟩:=k;exact h1.k.low) (fun i _ e=>(k.lt e).1))⟩,h5,h6⟩
theorem UStp.cu{q b bt:Nat}{loc:Int→Option Nat}(k:Cu w0 O w p v){v2:Ch}(h:UStp w0.heap.size O w p v2 q b bt loc w'):∃O',Cu w0 O' w' p v2∧Go_ O w O' w':=by
 obtain⟨O1,r1,loc1,h4,h5,h6,h7⟩:=h
 exact⟨O1,⟨⟨q,r1,b,bt,loc1,h4⟩,k.2.trans (h6.bel (by obtain⟨⟨q,r,b,bt,loc,h1⟩,_⟩:=k;exact h1.k.low) (fun i _ e=>(k.lt e).1))⟩,h5,h6⟩
theorem Cu.new(hb:Below w0.heap.size w0 w)(orders room tries:Int):
 Calls Tryz.prog 9 #[.int .i64 orders,.int .i64 room,.int .i64 tries] w fun e w'=>∃p O,e= .returned (.pointer (some ⟨p,0,none⟩))∧Cu w0 O w' p (newCh orders room tries)∧Below w.heap.size w w'∧∀i,Eo O i→w.heap.size≤i:=by
 refine(cnew_any orders room tries w).mono ?_
 rintro e w' ⟨O,p,q,r,b,bt,loc,h1,h2,h3⟩
 have hB:=hb.size
 have k2:CkV w0.heap.size O w' p (newCh orders room tries) q r b bt loc ((newCh orders room tries).T.map lnC):=
  ⟨fun x i e=>⟨Nat.le_trans hB (h2.k.bd x i e).1,(h2.k.bd x i e).2⟩,h2.k.dj,h2.k.op,h2.k.blk,jr_low h2.k.jr hB,h2.k.oq,h2.k.or,bt_low h2.k.bl hB,h2.k.mp,h2.k.ob,(fun id l e=>by cases e),h2.k.no⟩
 exact⟨p,O,h1,⟨⟨q,r,b,bt,loc,k2,h2.g,h2.d⟩,bel_on' hb h3⟩,h3,fun i ⟨y,e⟩=>(h2.k.bd y i e).1⟩
theorem Cu.begin(hg:Gl w0)(k:Cu w0 O w p v)(o:Od){sa:Option Addr}{sc:Nat}(hs:Sts w sa o.steps)(hsl:o.steps.length≤9223372036854775807)(hw:(Lit.int .i64 o.id).wf =true){n:Int}(hn:begE v o=n)(hv:begS v o=v'){xs:List Mg}(hx:begA v o=xs):
 Calls Tryz.prog 11 #[.pointer (some ⟨p,0,none⟩),.agg #[.int .i64 o.id,.int .i64 o.item,.int .i64 o.qty,.int .i64 o.client,.int .i64 o.price,.slice sa o.steps.length sc]] w fun e w'=>∃a c O',e= .returned (.tuple #[.slice a xs.length c,.int .i64 n])∧AnC w' O' a c xs∧Cu w0 O' w' p v'∧Go_ O w O' w':=by
 subst hn hv hx
 obtain⟨⟨q,r,b,bt,loc,h⟩,_⟩:=id k
 refine(cbeg_any h (k.gl hg) o hs hsl hw).mono ?_
 rintro e w' ⟨x,h1,h2⟩
 obtain⟨a,c,O',h3,h4,h5,h6⟩:=h2.cu k
 cases h3
 exact⟨a,c,O',h1,h4,h5,h6⟩
theorem Cu.cancel(hg:Gl w0)(k:Cu w0 O w p v){id:Int}(hw:(Lit.int .i64 id).wf =true){n:Int}(hn:canE v id=n)(hv:canS v id=v'){xs:List Mg}(hx:canA v id=xs):
 Calls Tryz.prog 13 #[.pointer (some ⟨p,0,none⟩),.int .i64 id] w fun e w'=>∃a c O',e= .returned (.tuple #[.slice a xs.length c,.int .i64 n])∧AnC w' O' a c xs∧Cu w0 O' w' p v'∧Go_ O w O' w':=by
 subst hn hv hx
 obtain⟨⟨q,r,b,bt,loc,h⟩,_⟩:=_root_.id k
 refine(ccan_any h (k.gl hg) hw).mono ?_
 rintro e w' ⟨x,h1,h2⟩
 obtain⟨a,c,O',h3,h4,h5,h6⟩:=h2.cu k
 cases h3
 exact⟨a,c,O',h1,h4,h5,h6⟩
theorem Cu.accept(hg:Gl w0)(k:Cu w0 O w p v){id:Int}(hw:(Lit.int .i64 id).wf =true){n:Int}(hn:accE v id=n)(hv:accS v id=v'):
 Calls Tryz.prog 15 #[.pointer (some ⟨p,0,none⟩),.int .i64 id] w fun e w'=>∃O',e= .returned (.int .i64 n)∧Cu w0 O' w' p v'∧Go_ O w O' w':=by
 subst hn hv
 obtain⟨⟨q,r,b,bt,loc,h⟩,_⟩:=_root_.id k
 refine(cacc_any h (k.gl hg) hw).mono ?_
 rintro e w' ⟨h1,h2⟩
 obtain⟨O',h3,h4⟩:=h2.cu k
 exact⟨O',h1,h3,h4⟩
theorem Cu.ring(hg:Gl w0)(k:Cu w0 O w p v){id:Int}(hw:(Lit.int .i64 id).wf =true)(hv:rngS v id=v'){xs:List Mg}(hx:rngA v id=xs):
 Calls Tryz.prog 17 #[.pointer (some ⟨p,0,none⟩),.int .i64 id] w fun e w'=>∃a c O',e= .returned (.slice a xs.length c)∧AnC w' O' a c xs∧Cu w0 O' w' p v'∧Go_ O w O' w':=by
 subst hv hx
 obtain⟨⟨q,r,b,bt,loc,h⟩,_⟩:=_root_.id k
 exact(crng_any h (k.gl hg) hw).mono (fun _ _ h2=>h2.cu k)
theorem Cu.handle(hg:Gl w0)(k:Cu w0 O w p v)(m:Mg)(hw:(Lit.int .i64 m.id).wf =true)(hv:(hdSA v m).1 =v'){xs:List Mg}(hx:(hdSA v m).2 =xs):
 Calls Tryz.prog 24 #[.pointer (some ⟨p,0,none⟩),.agg #[.int .i64 m.k,.int .i64 m.fr,.int .i64 m.to,.int .i64 m.id,.int .i64 m.st,.int .i64 m.a,.int .i64 m.b]] w fun e w'=>∃a c O',e= .returned (.slice a xs.length c)∧AnC w' O' a c xs∧Cu w0 O' w' p v'∧Go_ O w O' w':=by
 subst hv hx
 obtain⟨⟨q,r,b,bt,loc,h⟩,_⟩:=_root_.id k
 exact(chandle_any h (k.gl hg) m hw).mono (fun _ _ h2=>h2.cu k)
theorem Cu.state(k:Cu w0 O w p v){id:Int}(hw:(Lit.int .i64 id).wf =true){n:Int}(hn:stC v id=n):
 Calls Tryz.prog 49 #[.pointer (some ⟨p,0,none⟩),.int .i64 id] w fun e w'=>e= .returned (.int .i64 n)∧Below w.heap.size w w':=by
 subst hn
 obtain⟨⟨q,r,b,bt,loc,h⟩,_⟩:=_root_.id k
 exact h.k.state hw
end
theorem AnC.two{w:World}{O:Pt→Nat→Prop}{a:Option Addr}{c:Nat}{m0 m1:Mg}(h:AnC w O a c [m0,m1]):∃b off,a=some ⟨b,off,none⟩∧w.cell? ⟨b,off,none⟩=some (.int .i64 m0.k)∧w.cell? ⟨b,off+7,none⟩=some (.int .i64 m1.k):=by
 rcases h.mgs with h1|⟨b,off,h1,h2⟩
 ·cases h1
 ·exact⟨b,off,h1,h2 0 _ rfl,h2 7 _ rfl⟩
def oA:Od:=⟨7,0,1,0,1,[]⟩
def mA:Mg:=⟨8,2,0,7,0,0,0⟩
theorem aw_e:begE (newCh 5 50 3) oA=0:=by kernel_rfl
theorem aw_a:begA (newCh 5 50 3) oA= [⟨6,0,1,7,0,0,1⟩,⟨6,0,2,7,0,0,1⟩]:=by kernel_rfl
theorem aw_h:(hdSA (begS (newCh 5 50 3) oA) mA).2 = [⟨10,0,1,7,0,0,0⟩,⟨10,0,2,7,0,0,0⟩]:=by kernel_rfl
theorem aw_s:stC (hdSA (begS (newCh 5 50 3) oA) mA).1 7=4:=by kernel_rfl
set_option maxRecDepth 100000 in
set_option maxHeartbeats 1000000 in
theorem cwake_any(w:World)(hg:Gl w):Calls Tryz.prog 8 #[] w fun e w'=>e= .returned (.bool true)∧Below w.heap.size w w':=by
 have N:=Cu.new (w0:=w) (Below.refl _ _) 5 50 3
 have A1:=aw_e
 have A2:=aw_a
 have A3:=aw_h
 have A4:=aw_s
 generalize newCh 5 50 3=v0 at *
 obtain⟨v1,hv1⟩:∃v1,begS v0 oA=v1:=⟨_,rfl⟩
 rw[hv1]at A3 A4
 obtain⟨v2,hv2⟩:∃v2,(hdSA v1 mA).1 =v2:=⟨_,rfl⟩
 rw[hv2]at A4
 have HB:Hid (∀u p O,Cu w O u p v0→Calls Tryz.prog 11 #[.pointer (some ⟨p,0,none⟩),.agg #[.int .i64 7,.int .i64 0,.int .i64 1,.int .i64 0,.int .i64 1,.slice none 0 0]] u fun e w'=>∃a c O',e= .returned (.tuple #[.slice a 2 c,.int .i64 0])∧AnC w' O' a c [⟨6,0,1,7,0,0,1⟩,⟨6,0,2,7,0,0,1⟩]∧Cu w O' w' p v1):=fun u p O k=>
  (k.begin hg oA (sa:=none) (sc:=0) (.inl rfl) (by decide) (by decide) A1 hv1 A2).mono (fun _ _ ⟨a,c,O',e1,e2,e3,_⟩=>⟨a,c,O',e1,e2,e3⟩)
 have HH:Hid (∀u p O a c,Cu w O u p v1→AnC u O a c [⟨6,0,1,7,0,0,1⟩,⟨6,0,2,7,0,0,1⟩]→Calls Tryz.prog 24 #[.pointer (some ⟨p,0,none⟩),.agg #[.int .i64 8,.int .i64 2,.int .i64 0,.int .i64 7,.int .i64 0,.int .i64 0,.int .i64 0]] u fun e w'=>∃a2 c2,e= .returned (.slice a2 2 c2)∧(∃b off,a2=some ⟨b,off,none⟩∧w'.cell? ⟨b,off+7,none⟩=some (.int .i64 10))∧(∃b off,a=some ⟨b,off,none⟩∧w'.cell? ⟨b,off,none⟩=some (.int .i64 6))∧Calls Tryz.prog 49 #[.pointer (some ⟨p,0,none⟩),.int .i64 7] w' fun e w''=>e= .returned (.int .i64 4)∧Below w.heap.size w w''):=fun u p O a c k h=>by
  refine(k.handle hg mA (by decide) hv2 A3).mono ?_;rintro e w' ⟨a2,c2,O2,e1,e2,e3,e4⟩;obtain⟨b,off,g1,g2,-⟩:=(h.step e4).two;obtain⟨b2,off2,g3,-,g4⟩:=e2.two;exact⟨a2,c2,e1,⟨b2,off2,g3,g4⟩,⟨b,off,g1,g2⟩,(e3.state (id:=7) (by decide) A4).mono (fun _ _ ⟨z1,z2⟩=>⟨z1,bel_on' e3.2 z2⟩)⟩
 clear A1 A2 A3 A4 hv1 hv2 hg
 go_enter Tryz.func8,Tryz.ntmps8
 go_wp2_with(first
  |(go_at_call 9;refine N.mono ?_;clear N;rintro e u1 ⟨p,O,rfl,h1,-,-⟩;have B2:=HB.out u1 p O h1;clear h1 HB)
  |(go_at_call 11;refine B2.mono ?_;clear B2;rintro e u2 ⟨a,c,O1,rfl,h1,h2⟩;have H2:=HH.out u2 p O1 a c h2 h1;clear h1 h2 HH)
  |(go_at_call 24;refine H2.mono ?_;clear H2;rintro e u3 ⟨a2,c2,rfl,⟨b2,o2,rfl,d2⟩,⟨b1,o1,rfl,d1⟩,h3⟩;have S2:=h3;clear h3)
  |(go_at_call 49;refine S2.mono ?_;clear S2;rintro e u4 ⟨rfl,hb⟩;have HX:=hide hb;clear hb))
 go_ret
 exact⟨rfl,HX.out⟩
def fewTo(l:List C22.Cl)(j:Nat):Prop:=j≤100∧∀i c,i<j→l[i]?=some c→c.o.steps.length≤10
theorem few_step{l:List C22.Cl}{j:Nat}{c:C22.Cl}(h:fewTo l j)(hc:l[j]?=some c)(h1:j<100)(h2:c.o.steps.length≤10):fewTo l (j+1):=by
 refine⟨by omega,fun i c' hi hc'=>?_⟩
 by_cases e:i=j
 ·subst e;rw[hc]at hc';cases hc';exact h2
 ·exact h.2 i c' (by omega) hc'
def FewR(w:World)(l:List C22.Cl)(e:Ending)(w':World):Prop:=(∃r:Bool,e= .returned (.bool r)∧(r=true→fewTo l l.length))∧Below w.heap.size w w'
set_option maxRecDepth 100000 in
set_option maxHeartbeats 4000000 in
theorem cfew_any(l:List C22.Cl)(a:Option Addr)(cap:Nat)(w:World)(w1:C22.ClsIn w l a):
 Calls Tryz.prog 7 #[.slice a l.length cap] w (FewR w l):=by
 obtain⟨hlen,hcl⟩:=w1
 have HCL:=hide hcl
 clear hcl
 have H0:Hid (Below w.heap.size w w∧fewTo l 0):=⟨Below.refl _ _,by omega,fun i c hi=>by omega⟩
 go_enter Tryz.func7,Tryz.ntmps7
 go_wp2_with fail
 go_loopw [7] (fun i wr=>∃j:Nat,i= .int .i64 j∧j≤l.length∧Hid (Below w.heap.size w wr∧fewTo l j)) (fun i _=>l.length-(Go.RowKit.intOf i).toNat)
 case atStart=>exact⟨0,rfl,Nat.zero_le _,H0⟩
 case round=>
  obtain⟨j,rfl,hj,HI⟩:=hrel;clear H0;by_cases hlt:j<l.length
  rotate_left
  ·have ql:¬(j:Int)<(l.length:Int):=by omega
   go_wp2_with fail
   go_ret
   exact⟨⟨true,rfl,fun _=>by have:=HI.out.2;rwa [show j=l.length by omega]at this⟩,HI.out.1⟩
  have ql:(j:Int)<(l.length:Int):=by omega
  obtain⟨⟨cd,ci,cn,ct,o,sa,sc,⟨m0,m1,m2,m3,m4,m5,m6⟩⟩,hc⟩:∃c,l[j]?=some c:=⟨l[j],by simp[hlt]⟩
  rcases HCL.out.below HI.out.1 with hh|⟨bb,off,rfl,hca⟩
  ·subst hh;simp at hlt
  have hx:=hca j _ hc
  dsimp only at hx;obtain⟨⟨c0,c1,c2,c3,c4,c5,c6,c7,c8,c9,c10,c11,c12,c13,c14,c15,c16⟩,-⟩:=hx;have HBV:Hid (Below w.heap.size w (wr.alloc (.cells #[.int .i64 cd,.int .i64 ci,.int .i64 cn,.int .i64 ct,.int .i64 o.id,.int .i64 o.item,.int .i64 o.qty,.int .i64 o.client,.int .i64 o.price,.slice sa o.steps.length sc,.int .i64 m0,.int .i64 m1,.int .i64 m2,.int .i64 m3,.int .i64 m4,.int .i64 m5,.int .i64 m6] 36))):=HI.out.1.alloc HI.out.1.size _
  have HC:=hide hc
  clear hca hc;by_cases h100:j<100
  rotate_left
  ·have q1:(j:Int)≥100:=by omega
   go_wp2_with fail
   go_ret
   exact⟨⟨false,rfl,fun e=>by cases e⟩,HBV.out⟩
  have q1:¬(j:Int)≥100:=by omega
  by_cases h10:o.steps.length≤10
  rotate_left
  ·have q2:(o.steps.length:Int)>10:=by omega
   go_wp2_with fail
   go_ret
   exact⟨⟨false,rfl,fun e=>by cases e⟩,HBV.out⟩
  have q2:¬(o.steps.length:Int)>10:=by omega
  have HN:Hid (Below w.heap.size w (wr.alloc (.cells #[.int .i64 cd,.int .i64 ci,.int .i64 cn,.int .i64 ct,.int .i64 o.id,.int .i64 o.item,.int .i64 o.qty,.int .i64 o.client,.int .i64 o.price,.slice sa o.steps.length sc,.int .i64 m0,.int .i64 m1,.int .i64 m2,.int .i64 m3,.int .i64 m4,.int .i64 m5,.int .i64 m6] 36))∧fewTo l (j+1)):=⟨HBV.out,few_step HI.out.2 HC.out h100 h10⟩
  clear HI HBV
  go_wp2_with fail
  go_roundw
  case rel=>exact⟨j+1,by go_num,by omega,HN⟩
  case measure=>simp[Go.RowKit.intOf];omega
section
variable {B:Nat}{O:Pt→Nat→Prop}{w w':World}{p:Nat}{v:Ch}{q:Nat}{r:Value}{b bt:Nat}{loc:Int→Option Nat}{Lq:List ByteArray}
theorem CkV.fstep(k:CkV B O w p v q r b bt loc Lq){b':Nat}(hb:w.heap.size≤b'∧b'<w'.heap.size)(hp:w'.heap[p]?=some (.cells #[.int .i64 v.most,.int .i64 v.room,.pointer (some ⟨q,0,none⟩),.map (some b'),.pointer (some ⟨bt,0,none⟩)] 94 (0,0)))
 (hm:Gd.Pu.Pa.Mx ptX Tryz.prog 3 w' b' 999 (fun _=>none)) (ht:Bt B (O .bl) w' bt v.t (fun _=>0) 999) (hk:Rg.Kept (fun i _=>i=p∨O .bl i) w w'):
 CkV B (grO O .mp w w') w' p ⟨v.most,v.room,v.t,v.T,v.su,v.down,noL,fun _=>0⟩ q r b' bt (fun _=>none) Lq:=by
 have hs:=hk.size
 have far:∀ {x:Pt},x≠ .nd →x≠ .bl →∀(i:Nat)(_:Obj),O x i→¬(i=p∨O .bl i):=fun h1 h2 i _ e e2=>e2.elim (fun e2=>h1 (k.dj _ _ _ e (e2▸k.op))) (fun e2=>h2 (k.dj _ _ _ e e2))
 exact⟨gr_bd k.bd k.low hs,gr_dj k.bd k.dj,.inl k.op,hp,k.jr.kept hk (fun o=>far (by intro e;cases e) (by intro e;cases e) q o k.oq) (fun i o e=>far (by intro e;cases e) (by intro e;cases e) i o (k.or i e)),.inl k.oq,fun i e=> .inl (k.or i e),
  bt_wide ht (fun i e=> .inl e) (fun i e=>gr_bd k.bd k.low hs .bl i e),hm,.inr ⟨rfl,hb.1,hb.2⟩,(fun id l e=>by cases e),fun _ _=>rfl⟩
end
def kpC(v:Ch)(stay:Int):Nat:=v.su+min stay.toNat (v.T.length-v.su)
def crC(v:Ch)(stay:Int):Ch:=⟨v.most,v.room,v.t,v.T.take (kpC v stay),v.su,true,noL,fun _=>0⟩
theorem crC_good{v:Ch}(g:GoodCh v)(stay:Int):GoodCh (crC v stay):=by
 have h1:=g.len
 have h2:=g.su
 have hk:kpC v stay≤v.T.length:=by unfold kpC;omega
 have hl:(v.T.take (kpC v stay)).length =kpC v stay:=by rw[List.length_take];omega
 refine⟨g.m1,g.m2,g.r1,g.r2,?_,?_,?_,fun _=>⟨rfl,rfl⟩,(fun e=>by cases e),noL_good,fun id e=>absurd rfl e⟩
 ·show((v.T.take (kpC v stay)).length :Int)≤v.room
  rw[hl];omega
 ·show v.su≤(v.T.take (kpC v stay)).length
  rw[hl];unfold kpC;omega
 ·have h3:=g.ok
  rw[←List.take_append_drop (kpC v stay) v.T]at h3;exact(fits_app.1 h3).1
set_option maxHeartbeats 1000000 in
theorem ccrash_up{B:Nat}{O:Pt→Nat→Prop}{w:World}{p:Nat}{v:Ch}{q:Nat}{r:Value}{b bt:Nat}{loc:Int→Option Nat}(h:Up B O w p v q r b bt loc)(stay torn:Int):
 Calls Tryz.prog 19 #[.pointer (some ⟨p,0,none⟩),.int .i64 stay,.int .i64 torn] w fun e w'=>(∃x,e= .returned x)∧∃O' r' b',CkV B O' w' p (crC v stay) q r' b' bt (fun _=>none) (crashL (v.T.map lnC) v.su stay torn)∧(∀i,Eo O' i→growE (Eo O) w w' i)∧Rg.Kept (fun i _=>Eo O i) w w':=by
 have j:=h.k.jr
 rw[h.d]at j
 have CR:=crash_up j (by rw[List.length_map];exact h.g.su) stay torn
 obtain⟨-,-,c2,-,-⟩:=h.k.cell3
 have FG:Hid (∀w1 r',Jr B w1 q r' v.room (crashL (v.T.map lnC) v.su stay torn) v.su true→Off q r r' w w1→Calls Tryz.prog 52 #[.pointer (some ⟨p,0,none⟩)] w1 fun e w'=>(∃x,e= .returned x)∧∃O' r' b',CkV B O' w' p (crC v stay) q r' b' bt (fun _=>none) (crashL (v.T.map lnC) v.su stay torn)∧(∀i,Eo O' i→growE (Eo O) w w' i)∧Rg.Kept (fun i _=>Eo O i) w w'):=fun w1 r' j1 ho=>by
  obtain⟨k1,g1⟩:=h.k.jstep (T':=v.T.take (kpC v stay)) (su':=v.su) (d':=true) j1 ho;refine(cforget_any k1.blk k1.bl (fun e=>by have:=k1.dj _ _ _ e k1.op;cases this)).mono ?_;rintro e w2 ⟨e1,b',hb',hp,hm,ht,hk⟩;have k2:=k1.fstep hb' hp hm ht hk
  have s1:=g1.size
  have s2:=hk.size
  refine⟨e1,_,_,_,k2,fun i e=>?_,(g1.mono (fun i _ e=>⟨_,e⟩)).trans (hk.mono (fun i _ e=>?_))⟩
  ·rcases gr_eo e with e|e
   ·exact(gr_eo e).imp id (fun e=>⟨e.1,by omega⟩)
   ·exact .inr ⟨by omega,e.2⟩
  ·rcases e with rfl|e|⟨e,-⟩
   ·exact⟨_,h.k.op⟩
   ·exact⟨_,e⟩
   ·cases e
 clear j h
 go_enter Tryz.func19,Tryz.ntmps19
 go_wp2_with(first
  |(go_at_call 85;refine CR.mono ?_;clear CR;rintro e w1 ⟨⟨x,rfl⟩,r',h1,h2⟩;have F2:=FG.out w1 r' h1 h2;clear h1 h2 FG)
  |(go_at_call 52;refine F2.mono ?_;clear F2;rintro e w2 ⟨⟨x2,rfl⟩,h1⟩;have HX:=hide h1;clear h1))
 go_end0
 exact⟨⟨_,rfl⟩,HX.out⟩
end Go.Proofs.YthfgmpooehkhgaaGreatDoor
namespace Go.Proofs.YthfgmpooehkhgaaGreatDoor
open Go.RowKit Sg Bl
theorem only_of:∀ {l:List Int}{k:Int},l.Nodup→(∀x,x∈l↔x=k)→l= [k]
 | [],k,_,h=>absurd ((h k).2 rfl) (by simp)
 |x::r,k,hn,h=>by
  have hx:x=k:=(h x).1 (List.mem_cons_self ..)
  subst hx;cases r with
  |nil=>rfl
  |cons y r=>
   have hy:y=x:=(h y).1 (List.mem_cons_of_mem _ (List.mem_cons_self ..))
   subst hy;exact absurd (List.mem_cons_self ..) (List.nodup_cons.1 hn).1
theorem ids_one{L:Int→Option Lk}{k:Int}{l:Lk}(g:GoodM L)(hk:L k=some l)(ho:∀x,x≠k→L x=none):idsC L= [k]:=by
 refine only_of (idsC_nodup L) (fun x=>(idsC_mem g).trans ⟨fun h=>?_,fun e=>?_⟩)
 ·by_cases e:x=k
  ·exact e
  ·rw[ho x e]at h;cases h
 ·rw[e,hk];rfl
theorem up_one{v:Ch}{o:Od}{l:Lk}(hd:v.down=true)(g:GoodM (runT v.T))(h1:runT v.T o.id=some l)(h2:∀x,x≠o.id→runT v.T x=none):upC v=wkC (rvC v) o.id:=by
 unfold upC
 rw[if_pos hd,ids_one g h1 h2]
 rfl
section
variable {o:Od}{v:Ch}
end
def dy(o:Od)(T:List Et):Bool×Bool:=match runT T o.id with
 |none=>(false,false)
 |some l=>(l.f.yes,l.f.turned)
def Pfx(o:Od)(T:List Et):Prop:=o.steps.length+1≤T.length∧∀k,o.steps.length+1≤k→k≤T.length→∃l,runT (T.take k) o.id=some l∧l.o=o∧Mx o.steps.length l.f
section
variable {o:Od}{T:List Et}
theorem run_snoc(T:List Et)(e:Et):runT (T++ [e])=fol (runT T) e:=by
 unfold runT
 rw[List.foldl_append]
 rfl
theorem Pfx.end_(h:Pfx o T):∃l,runT T o.id=some l∧l.o=o∧Mx o.steps.length l.f:=by
 have:=h.2 T.length h.1 (Nat.le_refl _)
 rwa [List.take_length]at this
theorem Pfx.take(h:Pfx o T){k:Nat}(hk:o.steps.length+1≤k):Pfx o (T.take k):=by
 refine⟨by rw[List.length_take];have:=h.1;omega,fun j h1 h2=>?_⟩
 rw[List.length_take]at h2
 rw[List.take_take,Nat.min_eq_left (by omega)]
 exact h.2 j h1 (by omega)
theorem Pfx.snoc(h:Pfx o T){e:Et}(he:∃l,runT (T++ [e]) o.id=some l∧l.o=o∧Mx o.steps.length l.f):Pfx o (T++ [e]):=by
 refine⟨by rw[List.length_append];have:=h.1;omega,fun k h1 h2=>?_⟩
 by_cases hk:k≤T.length
 ·rw[List.take_append_of_le_length hk];exact h.2 k h1 hk
 ·rw[List.take_of_length_le (by rw[List.length_append]at h2 ⊢;simp at h2 ⊢;omega)];exact he
theorem run_none:∀(T:List Et)(L:Int→Option Lk)(x:Int),(∀e∈T,e.id≠x)→L x=none→T.foldl fol L x=none
 | [],_,_,_,h=>h
 |e::T,L,x,hT,h=>run_none T (fol L e) x (fun e' he=>hT e' (List.mem_cons_of_mem _ he)) (by
  unfold fol;rw[Gd.updO_other _ _ (fun e2=>hT e (List.mem_cons_self ..) e2.symm)];exact h)
theorem dy_some{l:Lk}(h:runT T o.id=some l):dy o T=(l.f.yes,l.f.turned):=by
 unfold dy
 rw[h]
end
def Gr(o:Od)(T T':List Et):Prop:=((dy o T).1 =true→(dy o T').1 =true)∧((dy o T).2 =true→(dy o T').2 =true)
theorem Gr.refl(o:Od)(T:List Et):Gr o T T:=⟨id,id⟩
theorem Gr.trans{o:Od}{A B C:List Et}(h:Gr o A B)(k:Gr o B C):Gr o A C:=⟨fun e=>k.1 (h.1 e),fun e=>k.2 (h.2 e)⟩
structure LsI (o:Od) (s:Bool×Bool) (v:Ch):Prop where
 d:v.down=false
 p:Pfx o v.T
 su:o.steps.length+1≤v.su
 sl:v.su≤v.T.length
 dv:∀k,v.su≤k→k≤v.T.length→dy o (v.T.take k)=dy o v.T
 sy:(dy o v.T).1 =true→s=(true,true)
 ys:∀l a b,v.L o.id=some l→l.y=some (a,b)→(a=true→s.1=true)∧(b=true→s.2=true)
 c:core v.L=core (runT v.T)
 ei:∀e∈v.T,e.id=o.id
section
variable {o:Od}{s:Bool×Bool}{v:Ch}
theorem LsI.at_(h:LsI o s v):∃l,v.L o.id=some l∧l.o=o∧Mx o.steps.length l.f∧dy o v.T=(l.f.yes,l.f.turned):=by
 obtain⟨l,h1,h2,h3⟩:=h.p.end_
 rcases core_at h.c o.id with⟨_,e⟩|⟨l1,l2,e1,e2,e3,e4⟩
 ·rw[h1]at e;cases e
 ·rw[h1]at e2;cases e2;exact⟨l1,e1,e3.trans h2,by rw[e4];exact h3,by rw[dy_some h1,e4]⟩
theorem LsI.of(h:LsI o s v){l:Lk}(hl:v.L o.id=some l):l.o=o∧Mx o.steps.length l.f∧dy o v.T=(l.f.yes,l.f.turned):=by
 obtain⟨l1,e1,e2⟩:=h.at_
 rw[hl]at e1
 cases e1
 exact e2
theorem LsI.setH(h:LsI o s v)(g:Int→Int):LsI o s (Go.Proofs.YthfgmpooehkhgaaGreatDoor.setH v g):=⟨h.d,h.p,h.su,h.sl,h.dv,h.sy,h.ys,h.c,h.ei⟩
theorem LsI.more(h:LsI o s v){s':Bool×Bool}(h1:s.1=true→s'.1=true)(h2:s.2=true→s'.2=true):LsI o s' v:=
 ⟨h.d,h.p,h.su,h.sl,h.dv,fun e=>by have:=h.sy e;subst this;exact Prod.ext (h1 rfl) (h2 rfl),fun l a b e1 e2=>⟨fun e=>h1 ((h.ys l a b e1 e2).1 e),fun e=>h2 ((h.ys l a b e1 e2).2 e)⟩,h.c,h.ei⟩
theorem fol_at{L:Int→Option Lk}{l:Lk}{k:Nat}{n:List Int}{id:Int}(hl:L id=some l)(hk:k≠0):fol L ⟨k,id,n⟩ id=some (folL l k n):=by
 unfold fol
 rw[Gd.updO_same,if_neg hk,hl]
 rfl
theorem okS_pos{l:Lk}{k:Nat}{n:List Int}(h:OkS l k n):k≠0:=by
 rintro rfl
 exact h
theorem folL_dy{l:Lk}{k:Nat}{n:List Int}:(l.f.yes=true→(folL l k n).f.yes =true)∧(l.f.turned=true→(folL l k n).f.turned =true)∧(k≠4→k≠5→(folL l k n).f.yes =l.f.yes∧(folL l k n).f.turned =l.f.turned)∧(k≠4→(folL l k n).f.yes =l.f.yes):=by
 unfold folL
 split<;>(try split)<;>simp_all
theorem folL_y{l:Lk}{k:Nat}{n:List Int}{a b:Bool}(h:(folL l k n).y =some (a,b)):l.y=some (a,b)∨(a=false∧b=false):=by
 unfold folL at h
 split at h<;>first|exact .inl h|(cases h;exact .inr ⟨rfl,rfl⟩)|cases h
theorem LsI.ext(h:LsI o s v){l:Lk}(hl:v.L o.id=some l){k:Nat}{n:List Int}(ho:OkS l k n)(h4:k=4→s=(true,true)):
 (LsI o s (sureC v [⟨k,o.id,n⟩])∧Gr o v.T (v.T++ [⟨k,o.id,n⟩]))∧(k≠4→k≠5→LsI o s (addC v [⟨k,o.id,n⟩])):=by
 obtain⟨e1,e2,e3⟩:=h.of hl
 have hk:=okS_pos ho
 obtain⟨l0,q1,q2,q3⟩:=h.p.end_
 have q4:l0.o=l.o∧l0.f=l.f:=by
  rcases core_at h.c o.id with⟨_,e⟩|⟨l1,l2,x1,x2,x3,x4⟩
  ·rw[q1]at e;cases e
  ·rw[hl]at x1;rw[q1]at x2;cases x1;cases x2;exact⟨x3.symm,x4.symm⟩
 have hfc:=folL_core l0 l q4 k n
 obtain⟨m1,m2⟩:=folL_mx e2 ho
 have hr:runT (v.T++ [⟨k,o.id,n⟩]) o.id=some (folL l0 k n):=by
  rw[run_snoc];exact fol_at q1 hk
 have hp:Pfx o (v.T++ [⟨k,o.id,n⟩]):=h.p.snoc ⟨_,hr,by rw[hfc.1,m1,e1],by rw[hfc.2];exact m2⟩
 have hdy:dy o (v.T++ [⟨k,o.id,n⟩])=((folL l k n).f.yes,(folL l k n).f.turned):=by rw[dy_some hr,hfc.2]
 obtain⟨f1,f2,f3,f4⟩:=folL_dy (l:=l) (k:=k) (n:=n)
 have hgr:Gr o v.T (v.T++ [⟨k,o.id,n⟩]):=by
  unfold Gr;rw[hdy,e3];exact⟨f1,f2⟩
 have hsy:(dy o (v.T++ [⟨k,o.id,n⟩])).1 =true→s=(true,true):=by
  rw[hdy];intro e;by_cases k4:k=4
  ·exact h4 k4
  ·refine h.sy ?_;rw[e3];exact(f4 k4)▸e
 have hys:∀l' a b,fol v.L ⟨k,o.id,n⟩ o.id=some l'→l'.y=some (a,b)→(a=true→s.1=true)∧(b=true→s.2=true):=by
  intro l' a b x1 x2;rw[fol_at hl hk]at x1;cases x1;rcases folL_y x2 with x3|⟨rfl,rfl⟩
  ·exact h.ys l a b hl x3
  ·exact⟨(fun e=>by cases e),(fun e=>by cases e)⟩
 have hc:core (fol v.L ⟨k,o.id,n⟩)=core (runT (v.T++ [⟨k,o.id,n⟩])):=by
  rw[run_snoc];exact core_fol h.c _
 have hei:∀e∈v.T++ [(⟨k,o.id,n⟩:Et)],e.id=o.id:=fun e he=>by
  rcases List.mem_append.1 he with he|he
  ·exact h.ei e he
  ·rw[List.mem_singleton.1 he]
 have hlen:(v.T++ [(⟨k,o.id,n⟩:Et)]).length =v.T.length+1:=by simp
 refine⟨⟨⟨h.d,hp,?_,?_,?_,hsy,hys,hc,hei⟩,hgr⟩,fun k4 k5=>⟨h.d,hp,h.su,?_,?_,hsy,hys,hc,hei⟩⟩
 ·show o.steps.length+1≤v.T.length+1
  have:=h.p.1
  omega
 ·show v.T.length+1≤_
  exact Nat.le_of_eq hlen.symm
 ·intro j j1 j2;have j1':v.T.length+1≤j:=j1
  show dy o ((v.T++ [_]).take j)=dy o (v.T++ [_])
  rw[List.take_of_length_le (by omega)]
 ·show v.su≤(v.T++ [_]).length
  have:=h.sl
  omega
 ·intro j j1 j2;have j1':v.su≤j:=j1
  have j2':j≤(v.T++ [(⟨k,o.id,n⟩:Et)]).length :=j2
  show dy o ((v.T++ [_]).take j)=dy o (v.T++ [_])
  have x:dy o (v.T++ [⟨k,o.id,n⟩])=dy o v.T:=by
   rw[hdy,e3];exact Prod.ext (f3 k4 k5).1 (f3 k4 k5).2
  by_cases hj:j≤v.T.length
  ·rw[List.take_append_of_le_length hj,x];exact h.dv j j1' hj
  ·rw[List.take_of_length_le (by omega)]
end
def Stp(o:Od)(s:Bool×Bool)(v v':Ch):Prop:=LsI o s v'∧Gr o v.T v'.T
section
variable {o:Od}{s:Bool×Bool}{v:Ch}
theorem LsI.self(h:LsI o s v):Stp o s v v:=⟨h,Gr.refl _ _⟩
theorem LsI.send(hm:mayO o=true)(h:LsI o s v){l:Lk}(hl:v.L o.id=some l):Stp o s v (sendS v l):=by
 obtain⟨e1,e2,e3⟩:=h.of hl
 unfold sendS
 split
 ·rename_i hp;rw[Bool.and_eq_true]at hp;obtain⟨p1,p2,p3⟩:=prep_facts (by rw[e1];exact hm) (by rw[e1];exact e2.dl) hp.1;unfold noteS;split
  ·have:=h.ext hl (k:=3) (n:=[]) ⟨p1,p2,p3⟩ (fun e=>by cases e)
   rw[e1];exact⟨this.2 (by decide) (by decide),this.1.2⟩
  ·exact h.self
 ·exact h.self
theorem LsI.go(hm:mayO o=true)(h:LsI o s v){l:Lk}(hl:v.L o.id=some l):Stp o s v (goS v l):=by
 unfold goS
 split
 ·exact⟨h.setH _,Gr.refl _ _⟩
 ·exact(h.setH (agnH v.t v.h l.o.id)).send hm hl
theorem LsI.sg(hm:mayO o=true)(h:LsI o s v){l:Lk}(hl:v.L o.id=some l){k:Nat}{n:List Int}(ho:OkS l k n)(h4:k=4→s=(true,true)):Stp o s v (sgS v l k n):=by
 obtain⟨e1,e2,e3⟩:=h.of hl
 unfold sgS
 split
 ·obtain⟨⟨x1,x2⟩,-⟩:=h.ext hl ho h4;rw[e1];obtain⟨y1,y2⟩:=x1.go hm (l:=folL l k n) (fol_at hl (okS_pos ho));exact⟨y1,x2.trans y2⟩
 ·exact h.self
theorem LsI.ng(hm:mayO o=true)(h:LsI o s v){l:Lk}(hl:v.L o.id=some l){k:Nat}{n:List Int}(ho:OkS l k n)(h4:k≠4)(h5:k≠5):Stp o s v (ngS v l k n):=by
 obtain⟨e1,e2,e3⟩:=h.of hl
 unfold ngS
 split
 ·obtain⟨⟨-,x2⟩,x1⟩:=h.ext hl ho (fun e=>absurd e h4);rw[e1];obtain⟨y1,y2⟩:=(x1 h4 h5).go hm (l:=folL l k n) (fol_at hl (okS_pos ho));exact⟨y1,x2.trans y2⟩
 ·exact h.self
def sdY(s:Bool×Bool)(who:Int):Bool×Bool:=if who=0 then(true,s.2)else(s.1,true)
theorem sdY_le(s:Bool×Bool)(who:Int):(s.1=true→(sdY s who).1 =true)∧(s.2=true→(sdY s who).2 =true):=by
 unfold sdY
 split
 ·exact⟨fun _=>rfl,id⟩
 ·exact⟨id,fun _=>rfl⟩
theorem LsI.yes(hm:mayO o=true)(hg:GoodM v.L)(h:LsI o s v){l:Lk}(hl:v.L o.id=some l)(hw:l.wt=true)(who:Int):Stp o (sdY s who) v (yesS v l who):=by
 obtain⟨e1,e2,e3⟩:=h.of hl
 obtain⟨⟨a,b⟩,hy⟩:=(hg _ _ hl).y hw
 obtain⟨w1,w2,w3⟩:=wt_of hw
 have h':=h.more (sdY_le s who).1 (sdY_le s who).2
 obtain⟨ya,yb⟩:=h.ys l a b hl hy
 unfold yesS
 rw[hy]
 show Stp o (sdY s who) v (if sayY (a,b) who=(true,true)then _ else _)
 split
 ·rename_i hs;refine h'.sg hm hl (k:=4) (n:=[]) ⟨w1,w2,w3⟩ (fun _=>?_);unfold sayY at hs;unfold sdY;split at hs
  ·rename_i h0;rw[if_pos h0];have:b=true:=(Prod.mk.inj hs).2
   rw[yb this]
  ·rename_i h0;rw[if_neg h0];have:a=true:=(Prod.mk.inj hs).1
   rw[ya this]
 ·refine⟨⟨h'.d,h'.p,h'.su,h'.sl,h'.dv,h'.sy,?_,?_,h'.ei⟩,Gr.refl _ _⟩
  ·intro l' a' b' x1 x2;have x3:Gd.updO v.L l.o.id (some ⟨l.o,l.f,some (sayY (a,b) who)⟩) o.id=some l':=x1
   rw[e1,Gd.updO_same]at x3;cases x3;have x4:sayY (a,b) who=(a',b'):=Option.some.inj x2
   unfold sayY at x4;unfold sdY;split at x4
   ·rename_i h0;rw[if_pos h0];obtain⟨rfl,rfl⟩:=Prod.mk.inj x4;exact⟨fun _=>rfl,yb⟩
   ·rename_i h0;rw[if_neg h0];obtain⟨rfl,rfl⟩:=Prod.mk.inj x4;exact⟨ya,fun _=>rfl⟩
  ·refine Eq.trans ?_ h.c;funext x
   show(Gd.updO v.L l.o.id (some ⟨l.o,l.f,some (sayY (a,b) who)⟩) x).map _=(v.L x).map _
   rw[e1];by_cases hx:x=o.id
   ·subst hx;rw[Gd.updO_same,hl];simp[e1]
   ·rw[Gd.updO_other _ _ hx]
theorem LsI.can(hm:mayO o=true)(h:LsI o s v):Stp o s v (canS v o.id):=by
 obtain⟨l,hl,e⟩:=h.at_
 unfold canS
 rw[h.d,hl]
 dsimp only
 rw[if_neg (by decide)]
 split
 ·exact h.self
 ·rename_i hd;unfold Lk.dec at hd;simp only[Bool.or_eq_true,not_or,Bool.not_eq_true]at hd;exact h.sg hm hl (k:=5) (n:=[]) ⟨hd.1,hd.2⟩ (fun e=>by cases e)
theorem LsI.acc(h:LsI o s v):Stp o s v (accS v o.id):=by
 obtain⟨l,hl,e1,-⟩:=h.at_
 unfold accS
 rw[h.d,hl]
 dsimp only
 rw[if_neg (by decide)]
 split
 ·obtain⟨⟨x1,x2⟩,-⟩:=h.ext hl (k:=10) (n:=[]) trivial (fun e=>by cases e);split
  ·have:accV v l=sureC v [⟨10,o.id,[]⟩]:=by unfold accV;rw[e1]
   rw[this];exact⟨x1.setH _,x2⟩
  ·have:accV v l=sureC v [⟨10,o.id,[]⟩]:=by unfold accV;rw[e1]
   rw[this];exact⟨x1,x2⟩
 ·exact h.self
theorem LsI.rng(hm:mayO o=true)(h:LsI o s v):Stp o s v (rngS v o.id):=by
 obtain⟨l,hl,e1,-⟩:=h.at_
 unfold rngS
 split
 ·exact h.self
 ·rw[hl];dsimp only;split
  ·split
   ·exact((h.setH _).setH _).send hm hl
   ·rename_i hd;unfold Lk.dec at hd;simp only[Bool.or_eq_true,not_or,Bool.not_eq_true]at hd;exact(h.setH (ringH v.h o.id)).sg hm hl (k:=5) (n:=[]) ⟨hd.1,hd.2⟩ (fun e=>by cases e)
  ·exact(h.setH _).send hm hl
end
def sdM(s:Bool×Bool)(m:Mg):Bool×Bool:=if m.k=7∧keepB m.fr=true then sdY s (m.fr-1)else s
theorem sdM_le(s:Bool×Bool)(m:Mg):(s.1=true→(sdM s m).1 =true)∧(s.2=true→(sdM s m).2 =true):=by
 unfold sdM
 split
 ·exact sdY_le _ _
 ·exact⟨id,id⟩
theorem dec_ok{l:Lk}(h:l.dec=true):(l.f.yes||l.f.turned)=true:=h
section
variable {o:Od}{s:Bool×Bool}{v:Ch}
theorem LsI.keep(hm:mayO o=true)(hg:GoodM v.L)(h:LsI o s v){l:Lk}(hl:v.L o.id=some l)(m:Mg)(hk:keepB m.fr=true):Stp o (sdM s m) v (keepSA v l m).1 :=by
 have h':=h.more (sdM_le s m).1 (sdM_le s m).2
 unfold keepSA
 split
 ·rename_i hc;have e:sdM s m=sdY s (m.fr-1):=by unfold sdM;rw[if_pos ⟨hc.1,hk⟩]
  rw[e];exact h.yes hm hg hl hc.2 _
 ·split
  ·rename_i hc;obtain⟨w1,w2,w3⟩:=wt_of hc.2;exact h'.sg hm hl (k:=5) (n:=[]) ⟨w2,w3⟩ (fun e=>by cases e)
  ·split
   ·rename_i hc;have hd:=hc.2
    rw[Bool.and_eq_true]at hd;exact h'.ng hm hl (k:=7) (dec_ok hd.1) (by decide) (by decide)
   ·split
    ·rename_i hc;unfold dmgS;split
     ·exact h'.self
     ·exact h'.sg hm hl (k:=8) (dec_ok hc.2) (fun e=>by cases e)
    ·exact h'.self
theorem LsI.shp(hm:mayO o=true)(h:LsI o s v){l:Lk}(hl:v.L o.id=some l)(m:Mg):Stp o s v (shipSA v l m).1 :=by
 unfold shipSA
 split
 ·rename_i hc;have hd:=hc.2
  rw[Bool.and_eq_true]at hd;exact h.ng hm hl (k:=9) hd.1 (by decide) (by decide)
 ·exact h.self
theorem LsI.srv(hm:mayO o=true)(h:LsI o s v){l:Lk}(hl:v.L o.id=some l)(m:Mg)(hs:srvB l m=true):Stp o s v (servSA v l m).1 :=by
 obtain⟨e1,e2,e3⟩:=h.of hl
 unfold srvB at hs
 simp only[Bool.and_eq_true,decide_eq_true_eq]at hs
 obtain⟨⟨s1,s2⟩,-⟩:=hs
 have hn:l.o.steps.length=o.steps.length:=by rw[e1]
 unfold servSA
 split
 ·rename_i hc;have hd:=hc.2
  unfold dnxB Lk.dec at hd;simp only[Bool.and_eq_true,Bool.not_eq_true',Bool.or_eq_false_iff,beq_iff_eq]at hd;refine h.ng hm hl (k:=2) ⟨hd.1.1,hd.1.2.1,hd.1.2.2,m.st.toNat,?_,?_,?_⟩ (by decide) (by decide)
  ·rw[Int.toNat_of_nonneg s1]
  ·rw[e2.dl];omega
  ·rw[Int.toNat_of_nonneg s1];exact hd.2
 ·split
  ·rename_i hc;have hd:=hc.2
   unfold Lk.dec at hd;simp only[Bool.or_eq_false_iff]at hd;exact h.sg hm hl (k:=5) (n:=[]) hd (fun e=>by cases e)
  ·split
   ·rename_i hc;have hd:=hc.2
    unfold unxB at hd;simp only[Bool.and_eq_true,Bool.not_eq_true']at hd;refine h.ng hm hl (k:=6) ⟨hd.1.1,m.st.toNat,?_,?_,hd.2⟩ (by decide) (by decide)
    ·rw[Int.toNat_of_nonneg s1]
    ·rw[e2.ul];omega
   ·exact h.self
theorem LsI.hd(hm:mayO o=true)(hg:GoodM v.L)(h:LsI o s v)(m:Mg):Stp o (sdM s m) v (hdSA v m).1 :=by
 have h':=h.more (sdM_le s m).1 (sdM_le s m).2
 unfold hdSA
 split
 ·exact h'.self
 ·split
  ·exact h'.self
  ·by_cases hid:m.id=o.id
   ·obtain⟨l,hl,-⟩:=h.at_;rw[hid,hl];dsimp only;split
    ·rename_i hk;exact h.keep hm hg hl m hk
    ·split
     ·exact h'.shp hm hl m
     ·split
      ·rename_i hs;exact h'.srv hm hl m hs
      ·exact h'.self
   ·have hn:v.L m.id=none:=by
     have e1:runT v.T m.id=none:=run_none v.T noL m.id (fun e he e2=>hid (e2▸h.ei e he)) rfl
     rcases core_at h.c m.id with⟨e,-⟩|⟨l1,l2,-,e2,-⟩
     ·exact e
     ·rw[e1]at e2;cases e2
    rw[hn];exact h'.self
theorem run_y:∀(T:List Et)(L:Int→Option Lk),(∀x l a b,L x=some l→l.y=some (a,b)→a=false∧b=false)→∀x l a b,T.foldl fol L x=some l→l.y=some (a,b)→a=false∧b=false
 | [],_,h=>h
 |e::T,L,h=>run_y T (fol L e) (fun x l a b e1 e2=>by
  unfold fol at e1;by_cases hx:x=e.id
  ·subst hx;rw[Gd.updO_same]at e1;split at e1
   ·cases e1;cases e2
   ·cases hL:L e.id with
    |none=>rw[hL]at e1;cases e1
    |some l0=>
     rw[hL]at e1;cases e1;rcases folL_y e2 with e3|e3
     ·exact h _ _ _ _ hL e3
     ·exact e3
  ·rw[Gd.updO_other _ _ hx]at e1;exact h _ _ _ _ e1 e2)
theorem LsI.down(hm:mayO o=true)(g:GoodCh v)(h:LsI o s v)(stay:Int):Stp o s v (upC (crC v stay)):=by
 have hsl:=h.sl
 have hsu:=h.su
 have hkp:v.su≤kpC v stay∧kpC v stay≤v.T.length:=by unfold kpC;omega
 have hp:=h.p.take (k:=kpC v stay) (by omega)
 have hdy:=h.dv _ hkp.1 hkp.2
 obtain⟨T',hT⟩:∃T',v.T.take (kpC v stay)=T':=⟨_,rfl⟩
 have hei:∀e∈T',e.id=o.id:=fun e he=>h.ei e (List.mem_of_mem_take (by rw[hT];exact he))
 rw[hT]at hp hdy
 obtain⟨l,r1,r2,r3⟩:=hp.end_
 have gk:=crC_good g stay
 have hDT:(crC v stay).T =T':=hT
 have hno:∀x,x≠o.id→runT T' x=none:=fun x hx=>run_none T' noL x (fun e he e2=>hx (e2.symm.trans (hei e he))) rfl
 rw[up_one (v:=crC v stay) rfl (noL_good.fols gk.ok) (by rw[hDT];exact r1) (by rw[hDT];exact hno)]
 obtain⟨vD,hD⟩:∃vD,crC v stay=vD:=⟨_,rfl⟩
 rw[hD]at hDT ⊢
 have hR:LsI o s (rvC vD):=by
  refine⟨rfl,?_,?_,Nat.le_refl _,?_,?_,?_,rfl,?_⟩
  ·show Pfx o vD.T
   rw[hDT];exact hp
  ·show o.steps.length+1≤vD.T.length
   rw[hDT];exact hp.1
  ·intro k k1 k2;show dy o (vD.T.take k)=dy o vD.T
   rw[List.take_of_length_le k1]
  ·show(dy o vD.T).1 =true→_
   rw[hDT,hdy];exact h.sy
  ·intro l' a b x1 x2;have:=run_y vD.T noL (fun x l a b e=>by cases e) o.id l' a b x1 x2
   exact⟨(fun e=>by rw[this.1]at e;cases e),(fun e=>by rw[this.2]at e;cases e)⟩
  ·show∀e∈vD.T,e.id=o.id
   rw[hDT];exact hei
 have hgr:Gr o v.T (rvC vD).T :=by
  show Gr o v.T vD.T
  unfold Gr;rw[hDT,hdy];exact⟨id,id⟩
 have hl:(rvC vD).L o.id=some l:=by show runT vD.T o.id=some l;rw[hDT];exact r1
 unfold wkC
 rw[hl]
 dsimp only
 split
 ·exact⟨hR,hgr⟩
 ·split
  ·rename_i hw;obtain⟨w1,w2,w3⟩:=wt_of hw;obtain⟨x1,x2⟩:=hR.sg hm hl (k:=5) (n:=[]) ⟨w2,w3⟩ (fun e=>by cases e);exact⟨x1.setH _,hgr.trans x2⟩
  ·exact⟨hR.setH _,hgr⟩
theorem stE_id(id:Int):∀(l:List (Int×Int))(i:Nat),∀e∈stE id i l,e.id=id
 | [],_,e,he=>by cases he
 |x::r,i,e,he=>by
  rcases List.mem_cons.1 (show e∈_::stE id (i+1) r from he)with rfl|he
  ·rfl
  ·exact stE_id id r (i+1) e he
theorem begT_id(o:Od):∀e∈begT o,e.id=o.id:=fun e he=>by
 rcases List.mem_cons.1 (show e∈_::stE o.id 0 o.steps from he)with rfl|he
 ·rfl
 ·exact stE_id o.id o.steps 0 e he
theorem mx_new(n:Nat)(h:n≤3):Mx n (frF n false false):=by
 have:n=0∨n=1∨n=2∨n=3:=by omega
 rcases this with rfl|rfl|rfl|rfl<;>exact⟨by decide,rfl,rfl,rfl,rfl,rfl,fun e=>by cases e⟩
theorem LsI.new(hm:mayO o=true)(orders room tries:Int)(hr:5≤roomV room):LsI o (false,false) (begS (newCh orders room tries) o):=by
 have hE:=(One.new hm orders room tries hr).1
 have hrun:runT (begT o)=Gd.updO noL o.id (some (begL o)):=fol_begin (L:=noL) rfl
 have hrl:runT (begT o) o.id=some (begL o):=by rw[hrun,Gd.updO_same]
 have h3:=(mayO_of hm).2.2.2.2.2.1
 have hdy:dy o (begT o)=(false,false):=dy_some hrl
 have hB:LsI o (false,false) (begV (newCh orders room tries) o):=by
  refine⟨rfl,⟨?_,?_⟩,?_,?_,?_,?_,?_,rfl,?_⟩
  ·show o.steps.length+1≤(begT o).length
   exact Nat.le_of_eq (begT_len o).symm
  ·intro k k1 k2;have k2':k≤(begT o).length :=k2
   refine⟨begL o,?_,rfl,mx_new _ h3⟩;show runT ((begT o).take k) o.id=_
   rw[List.take_of_length_le (by rw[begT_len];omega)];exact hrl
  ·show o.steps.length+1≤0+(begT o).length
   rw[begT_len];omega
  ·show 0+(begT o).length ≤(begT o).length
   omega
  ·intro k k1 k2;have k1':0+(begT o).length ≤k:=k1
   show dy o ((begT o).take k)=dy o (begT o)
   rw[List.take_of_length_le (by omega)]
  ·show(dy o (begT o)).1 =true→_
   rw[hdy];intro e;cases e
  ·intro l a b x1 x2;have x3:runT (begT o) o.id=some l:=x1
   rw[hrl]at x3;cases x3;cases x2
  ·show∀e∈begT o,e.id=o.id
   exact begT_id o
 unfold begS
 rw[hE,if_pos rfl]
 exact(hB.go hm (l:=begL o) hrl).1
end
end Go.Proofs.YthfgmpooehkhgaaGreatDoor
namespace Go.Proofs.YthfgmpooehkhgaaGreatDoor
open Go.ChangeShapes Go.WideShapes Go.ChangeAt Go.RowKit Go.Maps Sg Bl
theorem mid3(w:World)(b0 b1 b2:Obj):(((w.alloc b0).alloc b1).alloc b2).heap[w.heap.size+1]?=some b1∧Below w.heap.size w (((w.alloc b0).alloc b1).alloc b2):=by
 refine⟨?_,(((Below.refl _ _).alloc (Nat.le_refl _) _).alloc (by simp) _).alloc (by simp;omega) _⟩
 have h:=World.alloc_heap_new (w.alloc b0) b1
 rw[World.size_alloc]at h
 exact(Below.heap_alloc _ _ _ (by simp)).trans h
def FitR(m:Mg)(w:World)(e:Ending)(w':World):Prop:=∃k:Int,e= .returned (.agg #[.int .i64 k,.int .i64 m.to,.int .i64 0,.int .i64 m.id,.int .i64 m.st,.int .i64 0,.int .i64 0])∧Below w.heap.size w w'
set_option maxHeartbeats 2000000 in
theorem cfits_any(m:Mg)(i:Int)(w:World):Calls Tryz.prog 23 #[.agg #[.int .i64 m.k,.int .i64 m.fr,.int .i64 m.to,.int .i64 m.id,.int .i64 m.st,.int .i64 m.a,.int .i64 m.b],.int .i64 i] w (FitR m w):=by
 obtain⟨k,fr,tt,id,st,a,b⟩:=m
 go_enter Tryz.func23,Tryz.ntmps23
 go_wp2
 all_goals(
  refine bodyPost_ret (results_cell_row Tryz.results23 _ _ (w.heap.size+1) 34 _ (0,0) _ rfl (mid3 w _ _ _).1 Tryz.underlying34 rfl (by kernel_rfl)) rfl ?_;exact⟨_,rfl,(mid3 w _ _ _).2⟩)
section
variable {w0 w:World}{O:Pt→Nat→Prop}{p:Nat}{v:Ch}
theorem Cu.facts(k:Cu w0 O w p v){id:Int}(hw:(Lit.int .i64 id).wf =true){l:Lk}(hl:v.L id=some l):
 Calls Tryz.prog 33 #[.pointer (some ⟨p,0,none⟩),.int .i64 id] w fun e w'=>(∃sa sc da dc ua uc,e= .returned (.tuple #[.agg #[.int .i64 l.o.id,.int .i64 l.o.item,.int .i64 l.o.qty,.int .i64 l.o.client,.int .i64 l.o.price,.slice sa l.o.steps.length sc],.agg #[.slice da l.f.dn.length dc,.slice ua l.f.un.length uc,.bool l.f.asked,.bool l.f.yes,.bool l.f.turned,.bool l.f.k0,.bool l.f.k1,.bool l.f.ship,.bool l.f.d0,.bool l.f.d1,.bool l.f.acc],.bool true])∧Sts w' sa l.o.steps∧FaIn w' l.f da dc ua uc)∧Below w.heap.size w w':=by
 obtain⟨⟨q,r,b,bt,loc,h⟩,_⟩:=k
 exact h.k.facts hw hl (h.g.gm _ _ hl)
end
end Go.Proofs.YthfgmpooehkhgaaGreatDoor
namespace Go.Proofs.YthfgmpooehkhgaaGreatDoor
open Go.RowKit Sg Bl
theorem lines_ok{v:Ch}(g:GoodCh v):∀x∈v.T.map lnC,Ok x:=fun x h=>by
 obtain⟨e,he,rfl⟩:=List.mem_map.1 h
 exact ok_line (fits_ok g.ok e he).may
theorem kp_eq(v:Ch)(stay:Int):keptN (v.T.map lnC) v.su stay=kpC v stay:=by
 unfold keptN kpC
 rw[List.length_map]
theorem crC_jl{v:Ch}(g:GoodCh v)(hz:∀x∈v.T.map lnC,1≤x.size)(stay torn:Int):JL (crashL (v.T.map lnC) v.su stay torn) (crC v stay):=by
 have h2:=g.su
 have hk:kpC v stay≤v.T.length:=by unfold kpC;omega
 have hl:(v.T.take (kpC v stay)).length =kpC v stay:=by rw[List.length_take];omega
 obtain⟨h3,h4⟩:=whole_crash (lines_ok g) (by rw[List.length_map];exact h2) hz stay torn
 rw[kp_eq]at h3 h4
 refine⟨?_,(fun e=>by cases e),fun _=>?_⟩
 ·show(crashL (v.T.map lnC) v.su stay torn).take (v.T.take (kpC v stay)).length =(v.T.take (kpC v stay)).map lnC
  rw[hl,h4,List.map_take]
 ·show(wholeD fun s=>Classical.propDecidable (Ok s)) (crashL (v.T.map lnC) v.su stay torn)=(v.T.take (kpC v stay)).length
  rw[hl,h3]
end Go.Proofs.YthfgmpooehkhgaaGreatDoor
namespace Go.Proofs.YthfgmpooehkhgaaGreatDoor.Ci
open Go.ChangeShapes Go.WideShapes Go.ChangeAt Go.RowKit Go.Shelf Go.Maps Go.Sort Sg Bl
theorem keyscall(mb:Option Nat)(W:World):CallsIn Fence.wide 5 Tryz.prog 164 #[.map mb] W fun e w'=>e= .returned (.func (.func 200) #[] #[.pointer (some ⟨W.heap.size,0,none⟩)])∧w'=W.alloc (.cells #[.map mb] 92):=
 AnyZI.keys_in Tryz.keysB Fence.wide 5 trivial rfl mb W
theorem sortedcall{R:Value→Option (DataW Unit×List MemPlace)}{b n:Nat}{D:DataW Unit}{w:World}(hown:w.ownsMap Tryz.prog 3 R b n D)(hn:n≤1000000):
 CallsIn Fence.wide 5 Tryz.prog 163 #[.func (.func 200) #[] #[.pointer (some ⟨w.heap.size,0,none⟩)]] (w.alloc (.cells #[.map (some b)] 92)) fun e w'=>∃(v:Value)(ss:List Int),e= .returned v∧ss.Perm (intKeys D)∧
  w'.ownsRow (w.alloc (.cells #[.map (some b)] 92)).heap.size 3 1 v ss.length ((ss.mergeSort (fun x y=>decide (x≤y))).map encZ)∧(v= .slice none 0 0↔ss= [])∧Below (w.alloc (.cells #[.map (some b)] 92)).heap.size (w.alloc (.cells #[.map (some b)] 92)) w':=by
 have hsz:=hown.size_le
 have hseq:SeqGives Fence.wide 2 Tryz.prog 200 #[.pointer (some ⟨w.heap.size,0,none⟩)] encZ (fun ss=>ss.Perm (intKeys D)) (Maps.size D) (w.alloc (.cells #[.map (some b)] 92)):=
  AnyZI.keys_gives (ρ:=Tryz.keysB_ren) {Tryz.keysB with} Fence.wide _ trivial rfl (by omega) w.heap.size b n D _ (by simp) (by simp) (hown.alloc _)
 exact AnyZI.sorted_in Tryz.sortedA Fence.wide 5 trivial trivial trivial trivial rfl (by omega) (sortsA _) (enters_of Tryz.func199 (by kernel_rfl) rfl) 200 #[.pointer (some ⟨w.heap.size,0,none⟩)] trivial (enters_of Tryz.func200 (by kernel_rfl) rfl) _ _ (by unfold maxLen;omega) (by omega) _ hseq
theorem ids9_rise:ids9.Pairwise (· < ·):=by
 unfold ids9
 rw[List.pairwise_map]
 exact List.pairwise_lt_range.imp (fun h=>by omega)
theorem idsC_rise(L:Int→Option Lk):(idsC L).Pairwise (· < ·):=ids9_rise.filter _
theorem keys_ids{R:Value→Option (DataW Unit×List MemPlace)}{b n:Nat}{D:DataW Unit}{w:World}{L:Int→Option Lk}(gm:GoodM L)(hown:w.ownsMap Tryz.prog 3 R b n D)(hD:∀x:Int,Maps.has D (.int .i64 x)=(L x).isSome){ss:List Int}(hp:ss.Perm (intKeys D)):
 ss.mergeSort (fun x y=>decide (x≤y))=idsC L∧ss.length=(idsC L).length :=by
 have hC:CollectedI D (fun _=>false) (idsC L):=⟨idsC_nodup L,fun x=>by rw[idsC_mem gm,hD];simp⟩
 have hq:ss.Perm (idsC L):=hp.trans (hC.perm hown lawI Tryz.underlying3 (fun _=>rfl)).symm
 refine⟨?_,hq.length_eq⟩
 refine(mergeSort_of_perm_i hq).trans (List.mergeSort_of_pairwise ?_)
 exact(idsC_rise L).imp (fun h=>by simp;omega)
set_option maxHeartbeats 1000000 in
theorem cids_any{B:Nat}{O:Pt→Nat→Prop}{w:World}{p:Nat}{v:Ch}{q:Nat}{r:Value}{b bt:Nat}{loc:Int→Option Nat}{Lq:List ByteArray}(k:CkV B O w p v q r b bt loc Lq)(gm:GoodM v.L):
 Calls Tryz.prog 112 #[.pointer (some ⟨p,0,none⟩)] w fun e w'=>∃Bi,e= .returned (.func (.func 197) #[] #[.pointer (some ⟨Bi,0,none⟩)])∧Below w.heap.size w w'∧EachAt w.heap.size w'.heap.size w' Bi (idsC v.L):=by
 obtain⟨-,-,-,c3,-⟩:=k.cell3
 obtain⟨D,hown,hfit⟩:=k.mp
 have hLD:∀x:Int,Maps.has D (.int .i64 x)=(v.L x).isSome :=fun x=>by
  rw[(hfit.2 x).2];rcases k.at_ x with⟨h1,h2⟩|⟨l,a,h1,h2,-⟩<;>simp only[h1,h2]<;>rfl
 have cS:=sortedcall hown (show 999≤1000000 by decide)
 have KI:=fun ss=>keys_ids (ss:=ss) gm hown hLD
 clear k hown hfit hLD
 refine(callsIn_wide (n:=6)).1 ?_
 have hfK:Fence.wide.fn 164:=trivial
 have hfS:Fence.wide.fn 163:=trivial
 have hfE:Fence.wide.fn 162:=trivial
 have cE:∀(a:Option Addr)(l c:Nat)(W:World),CallsIn Fence.wide 5 Tryz.prog 162 #[.slice a l c] W _:=fun a l c W=>callsIn_wide.2 (each_any a l c W)
 refine callsIn_of_wp Tryz.func112 rfl trivial ?_ rfl
 simp only[Tryz.ntmps112,List.size_toArray,List.length_cons,List.length_nil,Nat.reduceAdd,Nat.reduceSub,Array.replicate_succ,Array.replicate_zero,List.push_toArray,List.append_toArray,List.nil_append,List.cons_append]
 gi_wp2_with (first
  |(gi_at_call 164;refine(keyscall _ _).mono ?_;rintro e w' ⟨rfl,rfl⟩)
  |(gi_at_call 163;refine cS.mono ?_;rintro e w1 ⟨sv,ss,rfl,hp,hrow,-,hb⟩;obtain⟨e1,e2⟩:=KI ss hp;rw[e1,e2]at hrow;obtain⟨a1,n1,rfl,-⟩:=row_slice hrow;clear cS KI)
  |(gi_at_call 162;refine(cE _ _ _ _).mono ?_;rintro e w2 ⟨rfl,rfl⟩))
 go_ret
 have hsz:w.heap.size≤w1.heap.size:=by have:=hb.size;simp at this;omega
 have hr2:=hrow.alloc (.cells #[.slice a1 (idsC v.L).length n1] 60)
 refine⟨_,rfl,((Below.refl _ w).alloc (Nat.le_refl _) _).trans ((hb.mono (by simp)).alloc hsz _),_,⟨hsz,by simp⟩,World.alloc_heap_new _ _,own_low hr2 (by simp),fun k e=>(hr2.lt k e).2⟩
end Go.Proofs.YthfgmpooehkhgaaGreatDoor.Ci
namespace Go.Proofs.YthfgmpooehkhgaaGreatDoor
open Go.ChangeShapes Go.WideShapes Go.ChangeAt Go.RowKit Go.Shelf Go.Maps Sg Bl
attribute [local go_sem] Oper.semAt_some
def PlainAt(w:World)(i:Nat):Prop:=(∃cs t f,w.heap[i]?=some (.cells cs t f))∨∃es c,w.heap[i]?=some (.map es c)
theorem PlainAt.kept{F:Nat→Obj→Prop}{w w':World}{i:Nat}(h:PlainAt w i)(hk:Rg.Kept F w w')(hF:∀o,¬F i o):PlainAt w' i:=by
 rcases h with⟨cs,t,f,h⟩|⟨es,c,h⟩
 ·exact .inl ⟨cs,t,f,hk.block _ _ h (hF _)⟩
 ·exact .inr ⟨es,c,hk.block _ _ h (hF _)⟩
theorem kept_put{F:Nat→Obj→Prop}{W:World}{l:Nat}{o:Obj}(o':Obj)(ho:W.heap[l]?=some o)(hF:F l o):Rg.Kept F W (W.putObj l o'):=
 ⟨rfl,rfl,rfl,by simp,fun k o2 hk hx=>(World.putObj_heap_other (fun e=>hx (by subst e;rw[ho]at hk;cases hk;exact hF))).trans hk⟩
theorem row_plain{w:World}{B:Nat}{e:TypeId}{s:Nat}{v:Value}{n:Nat}{xs:List Value}(h:w.ownsRow B e s v n xs):∀i,v.ownBlock=some i→PlainAt w i:=fun i hi=>by
 rcases h.2 with⟨rfl,_⟩|⟨g,cap,cur,rfl,_,hc,_⟩
 ·simp[Value.ownBlock]at hi
 ·simp[Value.ownBlock]at hi;subst hi;exact .inl ⟨_,_,_,hc⟩
theorem row_plain2{w:World}{B:Nat}{e:TypeId}{s:Nat}{a:Option Addr}{n c:Nat}{xs:List Value}(h:w.ownsRow B e s (.slice a n c) n xs):∀x,a=some x→PlainAt w x.block:=fun x hx=>by
 rcases h.2 with⟨e,_⟩|⟨g,cap,cur,e,_,hc,_⟩
 ·cases e;cases hx
 ·cases e;cases hx;exact .inl ⟨_,_,_,hc⟩
section
variable {B:Nat}{O:Pt→Nat→Prop}{w w':World}{p:Nat}{v:Ch}{q:Nat}{r:Value}{b bt:Nat}{loc:Int→Option Nat}{Lq:List ByteArray}
theorem CkV.exact(k:CkV B O w p v q r b bt loc Lq):CkV B (fun x i=>O x i∧PlainAt w i) w p v q r b bt loc Lq:=by
 refine⟨fun x i e=>k.bd x i e.1,fun x y i e1 e2=>k.dj x y i e1.1 e2.1,⟨k.op,.inl ⟨_,_,_,k.blk⟩⟩,k.blk,k.jr,⟨k.oq,.inl ⟨_,_,_,k.jr.1⟩⟩,fun i e=>⟨k.or i e,row_plain k.jr.2.2.1 i e⟩,?_,k.mp,⟨k.ob,?_⟩,fun id l e=>?_,k.no⟩
 ·obtain⟨h1,h2,h3,mv,h4,h5⟩:=k.bl;refine⟨fun i e=>h1 i e.1,⟨h2,.inl ⟨_,_,_,h4⟩⟩,h3,mv,h4,?_⟩;rcases h5 with h5|⟨b2,e1,e2,D,e3,e4⟩
  ·exact .inl h5
  ·refine .inr ⟨b2,e1,⟨e2,?_⟩,D,e3,e4⟩;obtain⟨es,c,hh,_⟩:=e3;exact .inr ⟨es,c,hh⟩
 ·obtain⟨D,⟨es,c,hh,_⟩,_⟩:=k.mp;exact .inr ⟨es,c,hh⟩
 ·obtain⟨a,h1,sa,sc,da,dc,ua,uc,tp,h2⟩:=k.ld id l e;refine⟨a,h1,sa,sc,da,dc,ua,uc,tp,⟨h2.blk,h2.low,h2.sr,h2.dr,h2.ur,h2.ne,h2.tl,⟨h2.ia,.inl ⟨_,_,_,h2.blk⟩⟩,fun x e=>⟨h2.is x e,row_plain2 h2.sr x e⟩,fun x e=>⟨h2.id x e,row_plain2 h2.dr x e⟩,fun x e=>⟨h2.iu x e,row_plain2 h2.ur x e⟩,fun t e=>⟨h2.it t e,?_⟩⟩⟩;rcases h2.tl with⟨e2,_⟩|⟨t2,y,e2,_,e3⟩
  ·rw[e2]at e;cases e
  ·rw[e2]at e;cases e;exact .inl ⟨_,_,_,e3.1.1⟩
end
namespace Rl
open Rp
theorem each_keep{B n₀ n₁ Bi:Nat}{W W':World}{L:List Int}(h:Ci.EachAt n₀ n₁ W Bi L)(hk:Keep B n₀ n₁ W W'):Ci.EachAt n₀ n₁ W' Bi L:=by
 obtain⟨v,h1,h2,h3,h4⟩:=h
 refine⟨v,h1,(hk.2 Bi h1.1 h1.2).trans h2,⟨h3.1,?_⟩,h4⟩
 rcases h3.2 with h5|⟨g,cap,cur,rfl,hg,hc,rest⟩
 ·exact .inl h5
 ·exact .inr ⟨g,cap,cur,rfl,hg,(hk.2 g hg (h4 g rfl)).trans hc,rest⟩
set_option maxRecDepth 100000 in
set_option maxHeartbeats 2000000 in
theorem each2_in(n:Nat)(hn:1≤n)(l Bi B n₀ n₁:Nat)(L:List Int)(hl:L.length≤1000000)(J:Nat→List Int→World→Prop)(Jx:List Int→World→Prop)
 (hY:∀M pre x W1,J M pre W1→pre.length<L.length→x=L.getD pre.length 0→YieldAt Fence.wide (n-1) Tryz.prog l #[.int .i64 x] W1 fun e W'=>(e= .returned (.bool true)∧Ex J (pre++ [x]) W'∧Keep B n₀ n₁ W1 W')∨(e= .returned (.bool false)∧Jx (pre++ [x]) W'))
 (W:World) (hE:Ci.EachAt n₀ n₁ W Bi L) (h0:Ex J [] W):
 CallsIn Fence.wide n Tryz.prog 197 #[.func (.yield l) #[] #[],.pointer (some ⟨Bi,0,none⟩)] W fun e W'=>(∃v,e= .returned v)∧((∃ys,ys=L∧Ex J ys W')∨(∃pre,pre<+:L∧Jx pre W')):=by
 have HY:=hide hY
 have HJ0:=hide h0
 have HE:=hide hE
 have hnf:∀u:World,(binOp BinOp.eql 101 (.func (.yield l) #[] #[]) .nilFunc).run Tryz.prog u= .ok (.bool false) u:=fun _=>by kernel_rfl
 obtain⟨v0,hv0⟩:=id hE
 obtain⟨a,c,rfl,hc0,-⟩:=hv0.row
 clear hY h0 hE hv0
 refine callsIn_of_wp Tryz.func197 rfl trivial ?_ rfl
 simp only[Tryz.ntmps197,List.size_toArray,List.length_cons,List.length_nil,Nat.reduceAdd,Nat.reduceSub,Array.replicate_succ,Array.replicate_zero,List.push_toArray,List.append_toArray,List.nil_append,List.cons_append]
 have HR0:Hid (Ints W a L∧W.cell? ⟨Bi,0,none⟩=some (.slice a L.length c)):=by
  obtain⟨v1,hv1⟩:=HE.out;obtain⟨a',c',e1,e2,e3⟩:=hv1.row;rw[hc0]at e2;cases e2;exact⟨e3,hc0⟩
 gi_wp2
 gi_loopw [9] (fun i wr=>∃pre:List Int,i= .int .i64 pre.length∧pre.length≤L.length∧Hid (pre=L.take pre.length)∧Hid (Ex J pre wr)∧Hid (Keep B n₀ n₁ W wr)) (fun i _=>L.length-(Go.RowKit.intOf i).toNat)
 case atStart=>exact⟨[],rfl,Nat.zero_le _,rfl,HJ0,Keep.refl _ _ _ _⟩
 case round=>
  obtain⟨pre,rfl,hp,HP,HJ,HK⟩:=hrel;by_cases hlt:pre.length<L.length
  ·obtain⟨v1,hv1⟩:=each_keep HE.out HK.out;obtain⟨a',c',e1,e2,e3⟩:=hv1.row;have hx1:wr.cell? ⟨Bi,0,none⟩=some (.slice a L.length c):=(World.cell?_of_block (HK.out.2 Bi hv1.1.1 hv1.1.2)).trans HR0.out.2
   rw[hx1]at e2;cases e2;rcases e3 with hi|⟨ba,oa,rfl,hca⟩
   ·exfalso;rw[hi]at hlt;simp at hlt
   have h1:=hca pre.length hlt
   obtain⟨x,hx⟩:∃x,x=L.getD pre.length 0:=⟨_,rfl⟩
   rw[←hx]at h1;have HPN:Hid (pre++ [x]=L.take (pre++ [x]).length):=by
    show pre++ [x]=L.take (pre++ [x]).length
    rw[List.length_append,List.length_singleton,←Ci.take_pre hlt,←hx,←HP.out]
   have HPF:Hid (pre++ [x]<+:L):=by
    show pre++ [x]<+:L
    rw[HPN.out];exact List.take_prefix _ _
   obtain⟨M,hM,hJM⟩:=HJ.out;obtain⟨fn,tmps,assign,body,hy,hR⟩:=HY.out M pre x wr hJM hlt hx;clear hx hca hx1 hv1 hJM;have q1:(pre.length:Int)<(L.length:Int):=by omega
   gi_wp2
   refine hR.mono ?_;rintro e W3 (⟨rfl,hJ3,hk3⟩|⟨rfl,hJ3⟩)
   ·have HJ3:=hide hJ3
    have HK3:=hide (HK.out.trans hk3)
    clear hJ3 hk3 hR h1
    gi_wp2
    go_roundw
    case rel=>exact⟨pre++ [x],by simp,by simp;omega,HPN,HJ3,HK3⟩
    case measure=>simp[Go.RowKit.intOf];omega
   ·have HJ3:=hide hJ3
    clear hJ3 hR h1
    gi_wp2
    refine bodyPost_ret (results_none rfl _ _ _) rfl ?_;exact⟨⟨_,rfl⟩,.inr ⟨_,HPF.out,HJ3.out⟩⟩
  ·have q1:¬(pre.length:Int)<(L.length:Int):=by omega
   have HL:Hid (pre=L):=by
    show pre=L
    have:=HP.out
    rwa [List.take_of_length_le (by omega)]at this
   gi_wp2
   go_end0
   refine⟨⟨_,rfl⟩,.inl ?_⟩;have h:=HJ.out
   rw[HL.out]at h;exact h
theorem each_tells(n:Nat)(hn:1≤n)(Bi B n₀ n₁:Nat)(L:List Int)(hl:L.length≤1000000)(w:World)(hE:Ci.EachAt n₀ n₁ w Bi L)(h1:n₁≤w.heap.size)(hB:B≤w.heap.size):
 SeqTells Fence.wide n Tryz.prog 197 #[.pointer (some ⟨Bi,0,none⟩)] (fun x:Int=>#[.int .i64 x]) (fun _ pre x _=>x=L.getD pre.length 0) (Keep B n₀ n₁) (fun ys=>ys=L) (fun pre=>pre<+:L) L.length w:=
 fun l J Jx W hWw _ hY h0=>each2_in n hn l Bi B n₀ n₁ L hl J Jx (fun M pre x W1 h2 h3 h4=>hY M pre x W1 h2 h3 h4) W (each_keep hE (Keep.of_below hWw hB h1)) h0
end Rl
end Go.Proofs.YthfgmpooehkhgaaGreatDoor
namespace Go.Proofs.YthfgmpooehkhgaaGreatDoor
open Go.ChangeShapes Go.WideShapes Go.ChangeAt Go.RowKit Go.Shelf Go.Maps Sg Bl
open Nat renaming le_refl→zD,le_trans→zK
open Rg.Kept renaming of_below→zE
open Go.World renaming alloc_heap_new→zI,putObj_heap_other→zM
attribute [local go_sem] Oper.semAt_some
theorem wpIn_scope{F:Fence}{n:Nat}{P:Program}{Q:Exit→Act→World→Prop}{a:Act}{w:World}{c:Code}(h:c.wpIn F n P (Exit.noGoto Q) a w):(Code.scope c).wpIn F n P Q a w:=by
 intro b k cs hro hb hr
 have h0:(lone (b.atR a (.code (.scope c)::k)) cs w).fenced P F:=fenced_calm hb hr rfl
 have s0:step P (lone (b.atR a (.code (.scope c)::k)) cs w)= .next (lone (b.atR a (.code c:: .inScope c::k)) cs w):=step_lone_go (by simp[stepG,stepG.exec,Frame.atR])
 have s1:∀a w,step P (lone (b.atR a (.inScope c::k)) cs w)= .next (lone (b.atR a k) cs w):=fun a w=>step_lone_go (by simp[stepG,stepG.exec,Frame.atR])
 obtain⟨e,a₁,w₁,hq,harr⟩:=h b (.inScope c::k) cs hro hb hr
 cases e with
 |normal=>exact⟨.normal,a₁,w₁,hq,.head h0 s0 (StepsIn.trans harr (.one (fenced_calm hb hr rfl) (s1 _ _)))⟩
 |exit id=>
  have hx:exitTo id (.inScope c::k)=exitTo id k:=by simp[exitTo]
  exact⟨.exit id,a₁,w₁,hq,fun k' hk=> .head h0 s0 (harr.1 k' (by rw[hx];exact hk)),fun hr' hk=>let ⟨k₁,h1,h2⟩:=harr.2 hr' (by rw[hx];exact hk);⟨k₁,h1,.head h0 s0 h2⟩⟩
 |goto l=>exact hq.elim
 |ret=>exact⟨_,a₁,w₁,hq,.of_steps (.one h0 s0) harr⟩
 |panic ch=>exact⟨_,a₁,w₁,hq,.of_steps (.one h0 s0) harr⟩
 |outgrown=>exact⟨_,a₁,w₁,hq,.of_steps (.one h0 s0) harr⟩
theorem wkC_over{v:Ch}{id:Int}{l:Lk}(h:v.L id=some l)(ho:overF l.o l.f=true):wkC v id=v:=by
 unfold wkC
 rw[h]
 simp[ho]
theorem wkC_on{v:Ch}{id:Int}{l:Lk}(h:v.L id=some l)(ho:overF l.o l.f=false):wkC v id=hgC (if l.wt=true then sgS v l 5 []else v) id:=by
 unfold wkC
 rw[h]
 simp[ho]
def SIw(w0 w:World)(E1:Nat→Prop)(v0:Ch)(p q b bt:Nat)(loc0:Int→Option Nat)(w2:World)(M:Nat)(pre:List Int)(W:World):Prop:=
 (∃O r loc,Up w0.heap.size O W p (pre.foldl wkC v0) q r b bt loc∧(∀id a,loc0 id=some a→loc id=some a)∧∀i,Eo O i→((E1 i∨w2.heap.size≤i)∧i<M)∧PlainAt W i)∧Boxed W w.heap.size 25 (.pointer (some ⟨p,0,none⟩))∧Rg.Kept (fun k _=>E1 k) w2 W∧w2.heap.size≤W.heap.size
section
variable {w0 w w2 W W':World}{E1:Nat→Prop}{v0:Ch}{p q b bt:Nat}{loc0:Int→Option Nat}{M:Nat}{pre:List Int}
theorem SIw.above(hs:w.heap.size<w2.heap.size)(h:SIw w0 w E1 v0 p q b bt loc0 w2 M pre W)(hk:Rg.Kept (fun k o=>w2.heap.size≤k∧o.isCells=false∧∀es c,o≠ .map es c) W W'):SIw w0 w E1 v0 p q b bt loc0 w2 M pre W':=by
 obtain⟨⟨O,r,loc,h1,hl,h6⟩,h2,h3,h5⟩:=h
 have kF:∀ {i:Nat}(o:Obj),W.heap[i]?=some o→PlainAt W i→¬(w2.heap.size≤i∧o.isCells=false∧∀es c,o≠ .map es c):=fun {i} o ho hp e=>by
  rcases hp with⟨cs,t,f,hc⟩|⟨es,c,hc⟩
  ·rw[ho]at hc;cases hc;cases e.2.1
  ·rw[ho]at hc;cases hc;exact e.2.2 _ _ rfl
 have hkF:Rg.Kept (fun k _=>w2.heap.size≤k∧¬PlainAt W k) W W':=⟨hk.os,hk.tape,hk.output,hk.size,fun k o ho hx=>hk.block k o ho (fun e=>hx ⟨e.1,fun hp=>kF o ho hp e⟩)⟩
 refine⟨⟨O,r,loc,⟨h1.k.kept hkF (fun x i o e e2=>e2.2 (h6 i ⟨x,e⟩).2),h1.g,h1.d⟩,hl,fun i e=>⟨(h6 i e).1,(h6 i e).2.kept hkF (fun _ e2=>e2.2 (h6 i e).2)⟩⟩,hk.block _ _ h2 (fun e=>by omega),?_,zK h5 hk.size⟩
 exact⟨hk.os.trans h3.os,hk.tape.trans h3.tape,hk.output.trans h3.output,zK h3.size hk.size,fun k o hk' hx=>hk.block k o (h3.block k o hk' hx) (fun e=>by have:=(Array.getElem?_eq_some_iff.1 hk').1;omega)⟩
theorem SIw.step{n0:Nat}{id:Int}(hE:∀k,E1 k→w0.heap.size≤k∧k<w.heap.size)(hs:w.heap.size<n0∧n0≤w2.heap.size){O:Pt→Nat→Prop}{r:Value}{loc:Int→Option Nat}(h1:Up w0.heap.size O W p (pre.foldl wkC v0) q r b bt loc)(hl:∀id a,loc0 id=some a→loc id=some a)(h6:∀i,Eo O i→((E1 i∨w2.heap.size≤i)∧i<M)∧PlainAt W i)
 (h2:Boxed W w.heap.size 25 (.pointer (some ⟨p,0,none⟩))) (h3:Rg.Kept (fun k _=>E1 k) w2 W) (h5:w2.heap.size≤W.heap.size) (hU:UStp w0.heap.size O W p (wkC (pre.foldl wkC v0) id) q b bt loc W'):
 Rl.KeepsLp W W'∧Keep w0.heap.size n0 w2.heap.size W W'∧Rl.Ex (SIw w0 w E1 v0 p q b bt loc0 w2) (pre++ [id]) W':=by
 obtain⟨O',r',loc',k1,g1,K1,l1⟩:=hU
 have hlow:=h1.k.low
 have hU2:Up w0.heap.size (fun x i=>O' x i∧PlainAt W' i) W' p ((pre++ [id]).foldl wkC v0) q r' b bt loc':=by
  rw[List.foldl_append];exact⟨k1.k.exact,k1.g,k1.d⟩
 refine⟨⟨K1.size,fun k o hk hc hm=>K1.block k o hk (fun e=>?_)⟩,⟨K1.bel hlow (fun i _ ⟨x,e⟩=>(h1.k.bd x i e).1),fun k hk0 hk1=>?_⟩,W'.heap.size,zD _,⟨_,r',loc',hU2,fun i a e=>l1 i a (hl i a e),fun i ⟨x,e⟩=>⟨⟨?_,(k1.k.bd x i e.1).2⟩,e.2⟩⟩,?_,?_,zK h5 K1.size⟩
 ·rcases(h6 k e).2 with⟨cs,t,f,h⟩|⟨es,c,h⟩
  ·rw[hk]at h;cases h;cases hc
  ·rw[hk]at h;cases h;exact hm _ _ rfl
 ·have ek:W.heap[k]?=some W.heap[k]:=Array.getElem?_eq_getElem (by omega)
  rw[ek];refine K1.block k _ ek (fun e=>?_);rcases(h6 k e).1.1 with h|h
  ·have:=hE k h;omega
  ·omega
 ·rcases g1 i ⟨x,e.1⟩with h|h
  ·exact(h6 i h).1.1
  ·exact .inr (by omega)
 ·refine K1.block _ _ h2 (fun e=>?_);rcases(h6 _ e).1.1 with h|h
  ·have:=hE _ h;omega
  ·omega
 ·exact⟨K1.os.trans h3.os,K1.tape.trans h3.tape,K1.output.trans h3.output,zK h3.size K1.size,fun k o hk hx=>K1.block k o (h3.block k o hk hx) (fun e=>by
   rcases(h6 k e).1.1 with h|h
   ·exact hx h
   ·have:=(Array.getElem?_eq_some_iff.1 hk).1;omega)⟩
set_option maxRecDepth 100000 in
set_option maxHeartbeats 4000000 in
theorem cwake_at{O:Pt→Nat→Prop}{r:Value}(hg0:Gl w0)(hw:Below w0.heap.size w0 w)(h:Up w0.heap.size O w p v0 q r b bt loc0):
 Calls Tryz.prog 90 #[.pointer (some ⟨p,0,none⟩)] w fun e w'=>(∃x,e= .returned x)∧UStp w0.heap.size O w p ((idsC v0.L).foldl wkC v0) q b bt loc0 w':=by
 refine(callsIn_wide (n:=5)).1 ?_
 obtain⟨U,hU⟩:∃U,U=w.alloc (.cells #[.pointer (some ⟨p,0,none⟩)] 25):=⟨_,rfl⟩
 have hbU:Below w.heap.size w U:=by rw[hU];exact(Below.refl _ _).alloc (zD _) _
 have hzU:U.heap.size=w.heap.size+1:=by rw[hU];simp
 have hbx:Boxed U w.heap.size 25 (.pointer (some ⟨p,0,none⟩)):=by
  show U.heap[w.heap.size]?=_
  rw[hU];exact zI w _
 have ID:=Ci.cids_any (h.k.on hbU) h.g.gm
 have hEx:=h.k.exact
 obtain⟨E1,hE1⟩:∃E1:Nat→Prop,(fun i=>Eo O i)=E1:=⟨_,rfl⟩
 have bE1:∀k,E1 k→w0.heap.size≤k∧k<w.heap.size:=fun k e=>by
  rw[←hE1]at e;obtain⟨x,e⟩:=e;exact h.k.bd x k e
 have hLL:∀id∈idsC v0.L,(1≤id∧id≤999)∧∃a,loc0 id=some a:=fun id hi=>by
  have h2:=(idsC_mem h.g.gm).1 hi
  rcases h.k.at_ id with⟨e,_⟩|⟨l,a,e,e2,_⟩
  ·rw[e]at h2;cases h2
  ·exact⟨⟨(h.g.gm id l e).i1,(h.g.gm id l e).i2⟩,a,e2⟩
 have hlen:=idsC_len v0.L
 obtain⟨L,hLe⟩:∃L,idsC v0.L=L:=⟨_,rfl⟩
 rw[hLe]at ID hLL hlen ⊢
 have HG:=hide hg0
 have HW:=hide hw
 have HUP:=hide h
 have HUW:=hide hU
 have HBU:=hide hbU
 rw[hU]at ID
 clear hg0 hw h hbU hU
 refine callsIn_of_wp_marks Tryz.func90 rfl trivial ?_ rfl
 simp only[Tryz.ntmps90,List.size_toArray,List.length_cons,List.length_nil,Nat.reduceAdd,Nat.reduceSub,Array.replicate_succ,Array.replicate_zero,List.push_toArray,List.append_toArray,List.nil_append,List.cons_append]
 gi_wp2_with fail
 refine wpIn_scope ?_
 gi_wp2_with fail
 refine wpIn_label ?_
 gi_wp2_with fail
 refine⟨trivial,(callsIn_wide.2 ID).mono ?_⟩
 rintro e w2 ⟨Bi,rfl,hb2,hEA⟩
 rw[←HUW.out]at hb2 hEA
 have hs2:=hb2.size
 have hW2:Below w0.heap.size w0 w2:=bel_on' HW.out (bel_on' HBU.out hb2)
 have HLL:=hide hLL
 have hs0:=hW2.size
 have ES:=Rl.each_tells 4 (by omega) Bi w0.heap.size U.heap.size w2.heap.size L (by omega) w2 hEA (zD _) hW2.size
 have HI:Hid (Rl.Ex (SIw w0 w E1 v0 p q b bt loc0 w2) [] w2):=by
  have hbw2:=bel_on' HBU.out hb2
  have k2:=HUP.out.on hbw2
  refine⟨w2.heap.size,zD _,⟨_,r,loc0,⟨k2.k.exact,k2.g,k2.d⟩,fun _ _ e=>e,fun i ⟨x,e⟩=>⟨⟨.inl ?_,?_⟩,e.2⟩⟩,(hb2.block _ hbx.lt).trans hbx,Rg.Kept.refl _ _,zD _⟩
  ·rw[←hE1];exact⟨x,e.1⟩
  ·exact(k2.k.bd x i e.1).2
 clear hLL hLe hEA hbx hEx
 gi_wp2_with fail
 refine Rl.range_tells (I:=SIw w0 w E1 v0 p q b bt loc0 w2) (Ix:=fun _ _ _=>False)
  (Ax:=fun x a' _=>a'= {tmps:=#[Value.pointer (some {block:=p,off:=0}),Value.pointer (some {block:=w.heap.size,off:=0}),Value.int .i64 x,undef,Value.pointer (some {block:=p,off:=0}),
    Value.func (Fn.func 197) #[] #[Value.pointer (some {block:=Bi,off:=0})],Value.int .i64 x,undef,undef,undef,undef,undef,undef,undef,undef,undef,undef,undef,undef,undef,undef,undef,undef,undef,undef,undef,undef,undef],defers:=[]})
  rfl (by omega) (gf:=197) (lb:=#[.pointer (some ⟨Bi,0,none⟩)]) rfl trivial (enters_of Tryz.func197 (by kernel_rfl) rfl) ES
  (fun h k=>h.trans k) (fun W l o o' hl' ho hc=>⟨⟨rfl,rfl,rfl,by simp,fun k hk=>zM (by omega)⟩,fun k _ hk=>zM (by omega)⟩) (fun _=>rfl)
  (fun M pre W l r1 r2 hs hl hr=>SIw.above (by omega) hs (kept_put _ hr ⟨hl,rfl,fun _ _ e=>by cases e⟩)) (fun M pre A B hs hb=>SIw.above (by omega) hs (zE hb)) (fun c s W W' row hs hg hr=>hs.elim) (fun x a' s W W' row hs hg hr=>hs) (fun M pre x s W W' row hs hg hr=>hs) HI.out ?assign ?body ?done ?stop
 case assign=>
  intro l M pre x W K hI hG hK;have HK':=hK {tmps:=#[Value.pointer (some {block:=p,off:=0}),Value.pointer (some {block:=w.heap.size,off:=0}),Value.int .i64 x,undef,Value.pointer (some {block:=p,off:=0}),
   Value.func (Fn.func 197) #[] #[Value.pointer (some {block:=Bi,off:=0})],Value.int .i64 x,undef,undef,undef,undef,undef,undef,undef,undef,undef,undef,undef,undef,undef,undef,undef,undef,undef,undef,undef,undef,undef],defers:=[]} W
   (Rl.keepsLp_below (Below.refl _ _)) (Keep.refl _ _ _ _) hI hG rfl
  clear hK hG
  gi_wp2
  exact HK'
 case body=>
  rintro l M pre x a' W hI rfl hgx hlt;obtain⟨⟨O1,r1,loc1,h1,hl1,h6⟩,h2,h3,h5⟩:=hI;have hxm:x∈L:=by
   rw[hgx];simp only[List.getD,List.getElem?_eq_getElem hlt,Option.getD_some];exact List.getElem_mem hlt
  obtain⟨⟨x1,x2⟩,a,ha0⟩:=HLL.out x hxm;have ha:=hl1 x a ha0
  have hwf:=wf_id x1 x2
  have hLK:=h1.k.look hwf
  rw[ha]at hLK;obtain⟨lk,hlk⟩:∃lk,(pre.foldl wkC v0).L x=some lk:=by
   rcases h1.k.at_ x with⟨_,e⟩|⟨lk,a',e,_⟩
   ·rw[ha]at e;cases e
   ·exact⟨lk,e⟩
  obtain⟨sa,sc,da,dc,ua,uc,tp,kl⟩:=h1.led hlk ha;have OV:=lover_any kl
  have hBW:Below w0.heap.size w0 W:=hW2.trans (h3.bel hW2.size (fun i _ e=>(bE1 i e).1))
  have hg1:∀u,Rg.Kept (fun i _=>Eo O1 i) W u→Gl u:=fun u hk=>HG.out.on (hBW.trans (hk.bel h1.k.low (fun i _ ⟨y,e⟩=>(h1.k.bd y i e).1)))
  have ST:Hid (∀w',UStp w0.heap.size O1 W p (wkC (pre.foldl wkC v0) x) q b bt loc1 w'→Rl.KeepsLp W w'∧Keep w0.heap.size U.heap.size w2.heap.size W w'∧Rl.Ex (SIw w0 w E1 v0 p q b bt loc0 w2) (pre++ [x]) w'):=fun w' hU=>SIw.step bE1 (by omega) h1 hl1 h6 h2 h3 h5 hU
  obtain⟨-,-,-,c3,c4⟩:=h1.k.cell3;have cb:=h2.cell
  have HBX:=hide h2
  have hwlt:w.heap.size<W.heap.size:=h2.lt
  have nw:¬Eo O1 w.heap.size:=fun e=>by
   rcases(h6 _ e).1.1 with h|h
   ·have:=(bE1 _ h).2;omega
   ·omega
  cases hov:overF lk.o lk.f
  ·rw[hov]at OV;have hwk:=wkC_on hlk hov
   rw[hwk]at ST;have WT:Hid (∀W1,Below W.heap.size W W1→Calls Tryz.prog 152 #[.pointer (some ⟨a,0,none⟩)] W1 fun e w'=>e= .returned (.bool lk.wt)∧W1=w'):=fun W1 hb=>lwt_any (kl.on hb)
   have CE:Hid (∀W1,Below W.heap.size W W1→W1.cell? ⟨w.heap.size,0,none⟩=some (.pointer (some ⟨p,0,none⟩))∧W1.cell? ⟨p,4,none⟩=some (.pointer (some ⟨bt,0,none⟩))):=fun W1 hb=>⟨cellL cb hb,(h1.k.on hb).cell3.2.2.2.2⟩
   cases hwt:lk.wt
   ·rw[hwt]at WT ST;rw[if_neg (by decide)]at ST;have HA:Hid (∀W1,Below W.heap.size W W1→Calls Tryz.prog 59 #[.pointer (some ⟨bt,0,none⟩),.int .i64 x] W1 fun e w'=>(∃y,e= .returned y)∧Rl.KeepsLp W w'∧Keep w0.heap.size U.heap.size w2.heap.size W w'∧Rl.Ex (SIw w0 w E1 v0 p q b bt loc0 w2) (pre++ [x]) w'):=fun W1 hb=>((h1.on hb).hang hwf ⟨lk,hlk⟩).mono (fun e w' ⟨e1,e2⟩=>⟨e1,ST.out w' (e2.from hb)⟩)
    clear h1 hl1 h6 h2 h3 h5 kl hg1 ST hlk hgx hxm hBW hwk hov hwt nw
    gi_wp2_with fail
    refine⟨trivial,(CallsIn.inRound l (callsIn_wide.2 OV)).mono ?_⟩;rintro y W1 ⟨rfl,hb1⟩;obtain⟨cb1,c41⟩:=CE.out W1 hb1
    gi_wp2_with fail
    refine⟨trivial,(CallsIn.inRound l (callsIn_wide.2 (WT.out W1 hb1))).mono ?_⟩;rintro y W1' ⟨rfl,rfl⟩
    gi_wp2_with fail
    refine⟨trivial,(CallsIn.inRound l (callsIn_wide.2 (HA.out _ hb1))).mono ?_⟩;rintro y W3 ⟨⟨z,rfl⟩,hX⟩;have HX:=hide hX
    clear hX OV
    gi_wp2
    exact HX.out
   ·rw[hwt]at WT ST;rw[if_pos rfl]at ST;have TN:Hid (∀W1,Below W.heap.size W W1→Calls Tryz.prog 68 #[.pointer (some ⟨p,0,none⟩),.pointer (some ⟨a,0,none⟩)] W1 fun e w'=>(∃y,e= .returned y)∧(w'.cell? ⟨w.heap.size,0,none⟩=some (.pointer (some ⟨p,0,none⟩))∧w'.cell? ⟨p,4,none⟩=some (.pointer (some ⟨bt,0,none⟩)))∧
     Calls Tryz.prog 59 #[.pointer (some ⟨bt,0,none⟩),.int .i64 x] w' fun e w''=>(∃y,e= .returned y)∧Rl.KeepsLp W w''∧Keep w0.heap.size U.heap.size w2.heap.size W w''∧Rl.Ex (SIw w0 w E1 v0 p q b bt loc0 w2) (pre++ [x]) w''):=fun W1 hb=>by
     refine(cturn_any (h1.on hb) (fun u hk=>hg1 u ((zE hb).trans hk)) hlk ha).mono ?_;rintro e w' ⟨xx,e1,ra,rc,O2,r2,loc2,-,-,-,k2,g2,K2,l2⟩;have hl2:∃l2,(sgS (pre.foldl wkC v0) lk 5 []).L x=some l2:=by
      rcases k2.k.at_ x with⟨_,e⟩|⟨lk2,a',e,_⟩
      ·rw[l2 x a ha]at e;cases e
      ·exact⟨lk2,e⟩
     refine⟨⟨_,e1⟩,⟨kept_cellR K2 (fun _=>nw) (cellL cb hb),k2.k.cell3.2.2.2.2⟩,(k2.hang hwf hl2).mono ?_⟩;rintro e3 w3 ⟨e4,hU⟩;exact⟨e4,ST.out w3 ((UStp.two g2 K2 l2 hU).from hb)⟩
    clear h1 hl1 h6 h2 h3 h5 kl hg1 ST hlk hgx hxm hBW hwk hov hwt nw
    gi_wp2_with fail
    refine⟨trivial,(CallsIn.inRound l (callsIn_wide.2 OV)).mono ?_⟩;rintro y W1 ⟨rfl,hb1⟩;obtain⟨cb1,c41⟩:=CE.out W1 hb1
    gi_wp2_with fail
    refine⟨trivial,(CallsIn.inRound l (callsIn_wide.2 (WT.out W1 hb1))).mono ?_⟩;rintro y W1' ⟨rfl,rfl⟩
    gi_wp2_with fail
    refine⟨trivial,(CallsIn.inRound l (callsIn_wide.2 (TN.out _ hb1))).mono ?_⟩;rintro y W2 ⟨⟨z,rfl⟩,⟨cb2,c42⟩,HG2⟩
    gi_wp2_with fail
    refine⟨trivial,(CallsIn.inRound l (callsIn_wide.2 HG2)).mono ?_⟩;rintro y W3 ⟨⟨z,rfl⟩,hX⟩;have HX:=hide hX
    clear hX OV HG2
    gi_wp2
    exact HX.out
  ·rw[hov]at OV;have hwk:=wkC_over hlk hov
   rw[hwk]at ST;have SX:Hid (∀W1,Below W.heap.size W W1→Rl.KeepsLp W W1∧Keep w0.heap.size U.heap.size w2.heap.size W W1∧Rl.Ex (SIw w0 w E1 v0 p q b bt loc0 w2) (pre++ [x]) W1):=fun W1 hb=>ST.out W1 (h1.stay hb)
   clear h1 hl1 h6 h2 h3 h5 kl hg1 ST hlk hgx hxm hBW hwk hov nw
   gi_wp2_with fail
   refine⟨trivial,(CallsIn.inRound l (callsIn_wide.2 OV)).mono ?_⟩;rintro y W1 ⟨rfl,hb1⟩;have HX:=hide (SX.out W1 hb1)
   clear OV
   gi_wp2
   exact HX.out
 case done=>
  rintro D xs W hD hxs ⟨M,-,hI⟩ hK;have FIN:Hid (UStp w0.heap.size O w p (L.foldl wkC v0) q b bt loc0 (W.putObj D (.deferred none))):=by
   obtain⟨⟨O1,r1,loc1,h1,hl1,h6⟩,h2,h3,h5⟩:=SIw.above (by omega) hI (kept_put (.deferred none) hK ⟨hD,rfl,fun _ _ e=>by cases e⟩);rw[hxs]at h1;have hbw2:=bel_on' HBU.out hb2
   refine⟨O1,r1,loc1,h1,fun i e=>?_,(zE hbw2).trans (h3.mono (fun i _ e=>by rw[←hE1]at e;exact e)),hl1⟩;rcases(h6 i e).1.1 with e2|e2
   ·rw[←hE1]at e2;exact .inl e2
   ·obtain⟨y,e3⟩:=e;exact .inr ⟨by omega,(h1.k.bd y i e3).2⟩
  gi_wp2
  refine⟨by simp,.inl ⟨_,_,rfl,run_takeDeferred hK,?_⟩⟩;exact⟨_,results_none rfl _ _ _,⟨_,rfl⟩,FIN.out⟩
 case stop=>exact fun D c pre W _ _ h _=>h.elim
end
attribute [local go_sem] Oper.semAt_some
def SIc(w0 w:World)(E1:Nat→Prop)(v:Ch)(p q b bt:Nat)(w2:World)(M:Nat)(pre:List Ev)(W:World):Prop:=
 (∃O r loc,CkV w0.heap.size O W p (rvN v pre.length) q r b bt loc (v.T.map lnC)∧∀i,Eo O i→((E1 i∨w2.heap.size≤i)∧i<M)∧PlainAt W i)∧Boxed W w.heap.size 25 (.pointer (some ⟨p,0,none⟩))∧Rg.Kept (fun k _=>E1 k) w2 W∧pre.length≤v.T.length∧w2.heap.size≤W.heap.size
section
variable {w0 w w1 w2 W W':World}{E1:Nat→Prop}{v:Ch}{p q b bt:Nat}{M:Nat}{pre:List Ev}
theorem SIc.above(hs:w.heap.size<w2.heap.size)(h:SIc w0 w E1 v p q b bt w2 M pre W)(hk:Rg.Kept (fun k o=>w2.heap.size≤k∧o.isCells=false∧∀es c,o≠ .map es c) W W'):SIc w0 w E1 v p q b bt w2 M pre W':=by
 obtain⟨⟨O,r,loc,h1,h6⟩,h2,h3,h4,h5⟩:=h
 have kF:∀ {i:Nat}(o:Obj),W.heap[i]?=some o→PlainAt W i→¬(w2.heap.size≤i∧o.isCells=false∧∀es c,o≠ .map es c):=fun {i} o ho hp e=>by
  rcases hp with⟨cs,t,f,hc⟩|⟨es,c,hc⟩
  ·rw[ho]at hc;cases hc;cases e.2.1
  ·rw[ho]at hc;cases hc;exact e.2.2 _ _ rfl
 have hkF:Rg.Kept (fun k _=>w2.heap.size≤k∧¬PlainAt W k) W W':=⟨hk.os,hk.tape,hk.output,hk.size,fun k o ho hx=>hk.block k o ho (fun e=>hx ⟨e.1,fun hp=>kF o ho hp e⟩)⟩
 refine⟨⟨O,r,loc,h1.kept hkF (fun x i o e e2=>e2.2 (h6 i ⟨x,e⟩).2),fun i e=>⟨(h6 i e).1,(h6 i e).2.kept hkF (fun _ e2=>e2.2 (h6 i e).2)⟩⟩,hk.block _ _ h2 (fun e=>by omega),?_,h4,zK h5 hk.size⟩
 exact⟨hk.os.trans h3.os,hk.tape.trans h3.tape,hk.output.trans h3.output,zK h3.size hk.size,fun k o hk' hx=>hk.block k o (h3.block k o hk' hx) (fun e=>by have:=(Array.getElem?_eq_some_iff.1 hk').1;omega)⟩
theorem SIc.step{x:Ev}(hE:∀k,E1 k→(w0.heap.size≤k∧k<w1.heap.size)∧k≠w.heap.size)(hs:w.heap.size<w1.heap.size∧w1.heap.size≤w2.heap.size){O:Pt→Nat→Prop}{r:Value}{loc:Int→Option Nat}(h1:CkV w0.heap.size O W p (rvN v pre.length) q r b bt loc (v.T.map lnC))(h6:∀i,Eo O i→((E1 i∨w2.heap.size≤i)∧i<M)∧PlainAt W i)
 (h2:Boxed W w.heap.size 25 (.pointer (some ⟨p,0,none⟩))) (h3:Rg.Kept (fun k _=>E1 k) w2 W) (h4:pre.length<v.T.length) (h5:w2.heap.size≤W.heap.size) (hU:CStp w0.heap.size O W p (rvN v (pre.length+1)) q b bt loc (v.T.map lnC) W'):
 Rl.KeepsLp W W'∧Keep w0.heap.size w1.heap.size w2.heap.size W W'∧Rl.Ex (SIc w0 w E1 v p q b bt w2) (pre++ [x]) W':=by
 obtain⟨O',r',loc',k1,g1,K1,l1⟩:=hU
 have hlow:=h1.low
 have hU2:CkV w0.heap.size (fun x i=>O' x i∧PlainAt W' i) W' p (rvN v (pre++ [x]).length) q r' b bt loc' (v.T.map lnC):=by
  rw[List.length_append];exact k1.exact
 refine⟨⟨K1.size,fun k o hk hc hm=>K1.block k o hk (fun e=>?_)⟩,⟨K1.bel hlow (fun i _ ⟨x,e⟩=>(h1.bd x i e).1),fun k hk0 hk1=>?_⟩,W'.heap.size,zD _,⟨_,r',loc',hU2,fun i ⟨x,e⟩=>⟨⟨?_,(k1.bd x i e.1).2⟩,e.2⟩⟩,?_,?_,by rw[List.length_append];exact h4,zK h5 K1.size⟩
 ·rcases(h6 k e).2 with⟨cs,t,f,h⟩|⟨es,c,h⟩
  ·rw[hk]at h;cases h;cases hc
  ·rw[hk]at h;cases h;exact hm _ _ rfl
 ·have ek:W.heap[k]?=some W.heap[k]:=Array.getElem?_eq_getElem (by omega)
  rw[ek];refine K1.block k _ ek (fun e=>?_);rcases(h6 k e).1.1 with h|h
  ·have:=hE k h;omega
  ·omega
 ·rcases g1 i ⟨x,e.1⟩with h|h
  ·exact(h6 i h).1.1
  ·exact .inr (by omega)
 ·refine K1.block _ _ h2 (fun e=>?_);rcases(h6 _ e).1.1 with h|h
  ·exact(hE _ h).2 rfl
  ·omega
 ·exact⟨K1.os.trans h3.os,K1.tape.trans h3.tape,K1.output.trans h3.output,zK h3.size K1.size,fun k o hk hx=>K1.block k o (h3.block k o hk hx) (fun e=>by
   rcases(h6 k e).1.1 with h|h
   ·exact hx h
   ·have:=(Array.getElem?_eq_some_iff.1 hk).1;omega)⟩
set_option maxRecDepth 100000 in
set_option maxHeartbeats 4000000 in
theorem cstart_down{O:Pt→Nat→Prop}{r:Value}{loc:Int→Option Nat}{Lq:List ByteArray}(hg0:Gl w0)(hw:Below w0.heap.size w0 w)(k:CkV w0.heap.size O w p v q r b bt loc Lq)(g:GoodCh v)(hd:v.down=true)(hj:JL Lq v):
 Calls Tryz.prog 21 #[.pointer (some ⟨p,0,none⟩)] w fun e w'=>(∃x,e= .returned x)∧∃O' r' loc',Up w0.heap.size O' w' p (upC v) q r' b bt loc'∧(∀i,Eo O' i→growE (Eo O) w w' i)∧Rg.Kept (fun i _=>Eo O i) w w':=by
 refine(callsIn_wide (n:=5)).1 ?_
 obtain⟨U,hU⟩:∃U,U=w.alloc (.cells #[.pointer (some ⟨p,0,none⟩)] 25):=⟨_,rfl⟩
 have hbU:Below w.heap.size w U:=by rw[hU];exact(Below.refl _ _).alloc (zD _) _
 have hzU:U.heap.size=w.heap.size+1:=by rw[hU];simp
 have hbx:Boxed U w.heap.size 25 (.pointer (some ⟨p,0,none⟩)):=by
  show U.heap[w.heap.size]?=_
  rw[hU];exact zI w _
 have k0:=k.on hbU
 have D:=k0.dn
 have hE:∀i,Eo O i→w0.heap.size≤i∧i<w.heap.size:=fun i ⟨x,e⟩=>k.bd x i e
 have hln:(v.T.map lnC).length =v.T.length:=List.length_map _
 rw[hd]at D
 have e0:(⟨v.most,v.room,v.t,v.T,v.T.length,false,v.L,v.h⟩:Ch)=rvN v 0:=by
  rw[(g.dn hd).1,(g.dn hd).2];rfl
 have R:Hid (∀U',Below U.heap.size U U'→(U'.cell? ⟨w.heap.size,0,none⟩=some (.pointer (some ⟨p,0,none⟩))∧U'.cell? ⟨p,2,none⟩=some (.pointer (some ⟨q,0,none⟩)))∧Calls Tryz.prog 87 #[.pointer (some ⟨q,0,none⟩)] U' fun e w'=>(∃x,e= .returned x)∧∃O1 r',CkV w0.heap.size O1 w' p (rvN v 0) q r' b bt loc (v.T.map lnC)∧(∀i,Eo O1 i→growE (Eo O) w w' i∧i≠w.heap.size)∧Rg.Kept (fun k _=>Eo O k) w w'∧Boxed w' w.heap.size 25 (.pointer (some ⟨p,0,none⟩))):=fun U' hu=>by
  have k1:=k0.on hu
  have hbx1:Boxed U' w.heap.size 25 (.pointer (some ⟨p,0,none⟩)):=(hu.block _ hbx.lt).trans hbx
  have j1:=k1.jr
  rw[hd]at j1;refine⟨⟨hbx1.cell,k1.cell3.2.2.1⟩,(recover_down hg0 (bel_on' (bel_on' hw hbU) hu) j1).mono ?_⟩;rintro e w' ⟨h1,r',h2,h3⟩;rw[hj.2.2 hd,hj.1]at h2;obtain⟨h4,h5⟩:=k1.jstep (T':=v.T) h2 h3;rw[e0]at h4;have hsz:=h5.size
  have husz:=hu.size
  refine⟨⟨_,h1⟩,_,r',h4,fun i e=>?_,(zE (bel_on' hbU hu)).trans (h5.mono (fun i _ e=>⟨_,e⟩)),h5.block _ _ hbx1 (fun e=>by have:=(hE _ ⟨_,e⟩).2;omega)⟩;rcases gr_eo e with e|e
  ·exact⟨.inl e,by have:=(hE i e).2;omega⟩
  ·exact⟨.inr ⟨by omega,e.2⟩,by omega⟩
 have HG:=hide hg0
 have HW:=hide hw
 have HK:=hide k
 have HGD:=hide g
 have HUW:=hide hU
 have HBU:=hide hbU
 rw[hU]at D
 have HTK:Hid (upC v=(idsC (rvC v).L).foldl wkC (rvC v)):=by
  show upC v=_
  unfold upC;rw[if_pos hd];rfl
 have hlnT:v.T.length≤4096:=by have:=g.len;have:=g.r2;omega
 clear hg0 hw k g k0 hbU hU e0 hj
 rw[HTK.out]
 refine callsIn_of_wp_marks Tryz.func21 rfl trivial ?_ rfl
 simp only[Tryz.ntmps21,List.size_toArray,List.length_cons,List.length_nil,Nat.reduceAdd,Nat.reduceSub,Array.replicate_succ,Array.replicate_zero,List.push_toArray,List.append_toArray,List.nil_append,List.cons_append]
 gi_wp2_with fail
 refine⟨trivial,(callsIn_wide.2 D).mono ?_⟩
 rintro e U1 ⟨rfl,hbD⟩
 rw[←HUW.out]at hbD
 obtain⟨⟨cb1,c21⟩,R1⟩:=R.out U1 hbD
 gi_wp2_with fail
 refine⟨trivial,(callsIn_wide.2 R1).mono ?_⟩
 rintro e w1 ⟨⟨x0,rfl⟩,O1,r',k1,hO1,hk1,hbx1⟩
 have d2:=k1.cell3.2.2.1
 have hb1:=hbx1.cell
 have hs01:=hk1.size
 gi_wp2_with fail
 refine⟨trivial,(all_in 4 (by omega) k1.jr).mono ?_⟩
 rintro e w2 ⟨a,c,Bs,rfl,hcb,hla,hbs,hb⟩
 have hs12:=hb.size
 have hL4:(v.T.map lnC).length ≤4096:=k1.jr.2.2.2.2.1
 have hX:∀x∈v.T.map lnC,x.size≤63:=fun x hx=>(k1.jr.2.2.2.2.2 x hx).2
 have hw0:w0.heap.size≤w.heap.size:=HW.out.size
 have hW1:Below w0.heap.size w0 w1:=HW.out.trans (hk1.bel hw0 (fun i _ e=>(hE i e).1))
 have hW2:Below w0.heap.size w0 w2:=bel_on' hW1 hb
 have ES:=Rl.entries_tells 4 (by omega) Bs w1.heap.size w2.heap.size w0 HG.out a c (v.T.map lnC) hL4 hX w2 hcb hla hW2 (zD _)
 have hwh:(wholeD fun s=>Classical.propDecidable (Ok s)) (v.T.map lnC)=(v.T.map lnC).length :=whole_all _ (lines_ok HGD.out)
 obtain⟨E1,hE1⟩:∃E1:Nat→Prop,(fun k=>Eo O1 k)=E1:=⟨_,rfl⟩
 have bE1:∀k,E1 k→(w0.heap.size≤k∧k<w1.heap.size)∧k≠w.heap.size:=fun k e=>by
  rw[←hE1]at e;obtain⟨y,e2⟩:=id e;exact⟨k1.bd y k e2,(hO1 k e).2⟩
 have i0:Rl.Ex (SIc w0 w E1 v p q b bt w2) [] w2:=by
  have k2:=k1.on hb
  refine⟨w2.heap.size,zD _,⟨_,r',loc,k2.exact,fun i ⟨x,e⟩=>⟨⟨.inl ?_,(k2.bd x i e.1).2⟩,e.2⟩⟩,(hb.block _ hbx1.lt).trans hbx1,Rg.Kept.refl _ _,Nat.zero_le _,zD _⟩;rw[←hE1];exact⟨x,e.1⟩
 have HI:=hide i0
 have hbxl:=hbx1.lt
 clear k1 i0 hcb hla hbx1 hb1 d2 hX cb1 c21
 gi_wp2_with fail
 refine Rl.range_tells (I:=SIc w0 w E1 v p q b bt w2) (Ix:=fun _ _ _=>False)
  (Ax:=fun x a' W=>∃Bx,w2.heap.size≤Bx∧W.heap[Bx]?=some (.cells #[.string x.k,.int .i64 x.id,.slice x.av x.l.length x.cv] 104 (0,0))∧
    a'= {tmps:=#[Value.pointer (some {block:=p,off:=0}),Value.pointer (some {block:=w.heap.size,off:=0}),Value.pointer (some {block:=Bx,off:=0}),
     Value.pointer (some {block:=p,off:=0}),Value.bool true,Value.bool false,
     Value.pointer (some {block:=p,off:=0}),Value.pointer (some {block:=p,off:=0}),
     Value.pointer (some {block:=p,off:=2}),Value.pointer (some {block:=q,off:=0}),x0,
     Value.pointer (some {block:=p,off:=0}),Value.pointer (some {block:=p,off:=0}),
     Value.pointer (some {block:=p,off:=2}),Value.pointer (some {block:=q,off:=0}),
     Value.func (Fn.func 185) #[] #[Value.pointer (some {block:=Bs,off:=0})],x.enc,undef,undef,undef,undef,undef],defers:=[]})
  rfl (by omega) (gf:=185) (lb:=#[.pointer (some ⟨Bs,0,none⟩)]) rfl trivial (enters_of Tryz.func185 (by kernel_rfl) rfl) ES
  (fun h k=>h.trans k) (fun W l o o' hl' ho hc=>⟨⟨rfl,rfl,rfl,by simp,fun k hk=>zM (by omega)⟩,fun k _ hk=>zM (by omega)⟩) (fun _=>rfl)
  (fun M pre W l r1 r2 hs hl hr=>SIc.above (by omega) hs (kept_put _ hr ⟨hl,rfl,fun _ _ e=>by cases e⟩)) (fun M pre A B hs hb=>SIc.above (by omega) hs (zE hb)) (fun c s W W' row hs hg hr=>hs.elim) (fun x a'=>?ax) (fun M pre x s W W' row hs hg hr=>⟨good_own _ _ x () W W' row hs.1 hg hr,good_own _ _ x () W W' row hs.2.1 hg hr,hs.2.2⟩) HI.out ?assign ?body ?done ?stop
 case ax=>
  refine ownFrom_kept (fun _ W W' hs hk=>?_);obtain⟨Bx,h0,h1,h2⟩:=hs;exact⟨Bx,h0,hk.block _ _ h1 (fun e=>by cases e.2),h2⟩
 case assign=>
  intro l M pre x W K hI hG hK;have hW7:=hI.2.2.2.2
  have hbA:Below W.heap.size W (W.alloc (.cells #[.string x.k,.int .i64 x.id,.slice x.av x.l.length x.cv] 104)):=(Below.refl _ _).alloc (zD _) _
  have HK':=hK {tmps:=#[Value.pointer (some {block:=p,off:=0}),Value.pointer (some {block:=w.heap.size,off:=0}),Value.pointer (some {block:=W.heap.size,off:=0}),
   Value.pointer (some {block:=p,off:=0}),Value.bool true,Value.bool false,
   Value.pointer (some {block:=p,off:=0}),Value.pointer (some {block:=p,off:=0}),
   Value.pointer (some {block:=p,off:=2}),Value.pointer (some {block:=q,off:=0}),x0,
   Value.pointer (some {block:=p,off:=0}),Value.pointer (some {block:=p,off:=0}),
   Value.pointer (some {block:=p,off:=2}),Value.pointer (some {block:=q,off:=0}),
   Value.func (Fn.func 185) #[] #[Value.pointer (some {block:=Bs,off:=0})],x.enc,undef,undef,undef,undef,undef],defers:=[]} _
   (Rl.keepsLp_below hbA) (Keep.of_below hbA (by omega) hW7) (SIc.above (by omega) hI (zE hbA)) ⟨⟨hG.1.1.below hbA,hG.1.2⟩,⟨hG.2.1.1.below hbA,hG.2.1.2⟩,hG.2.2⟩ ⟨W.heap.size,hW7,zI W _,rfl⟩
  clear hK;unfold Ev.enc at HK' ⊢
  gi_wp2
  exact HK'
 case body=>
  rintro l M pre x a' W hI ⟨Bx,hB0,hbx,rfl⟩ ⟨hGm,hGd,hpr⟩ hlt;obtain⟨⟨Oc,rc,locc,kc,h6⟩,h2,h3,h4,h5⟩:=hI;have hltT:pre.length<v.T.length:=by omega
  obtain⟨e,he⟩:∃e,v.T[pre.length]?=some e:=⟨_,List.getElem?_eq_getElem hltT⟩
  obtain⟨hfit,hgm⟩:=rvN_fit HGD.out he;have hgd:(v.T.map lnC).getD pre.length ByteArray.empty=lnC e:=by simp[List.getD,he]
  rw[hgd]at hpr;obtain⟨ek,ei,el⟩:=hfit.ok.parse hpr;obtain⟨xk,xi,xl,xa,xc⟩:=x;simp only[Ev.enc]at *;subst ek ei el;have hput:putL (rvN v pre.length) (fol (rvN v pre.length).L e)=rvN v (pre.length+1):=by
   rw[←rvN_step he];rfl
  have FW:=(cfollow_any2 kc hgm hfit (nc:=xc) hGm.1.ints (fun hne ad e1 h=>by
   rcases hGm.1 with h0|⟨b',off,e2,e3,_⟩
   ·exact hne h0
   ·rw[e2]at e1;cases e1;have:=(h6 _ h).1.2
    simp only at this;omega)).mono (R':=fun x w'=>(∃y,x= .returned y)∧Rl.KeepsLp W w'∧Keep w0.heap.size w1.heap.size w2.heap.size W w'∧Rl.Ex (SIc w0 w E1 v p q b bt w2) (pre++ [⟨kC e.k,e.id,e.n,xa,xc⟩]) w') (fun y w' ⟨z1,z2⟩=>by
    rw[hput]at z2;exact⟨z1,SIc.step bE1 (by omega) kc h6 h2 h3 hltT h5 z2⟩)
  have hcb1:=h2.cell
  have e0:W.cell? ⟨Bx,0,none⟩=some (.string (kC e.k)):=by rw[cell_of hbx];rfl
  have e1:W.cell? ⟨Bx,1,none⟩=some (.int .i64 e.id):=by rw[cell_of hbx];rfl
  have e2:W.cell? ⟨Bx,2,none⟩=some (.slice xa e.n.length xc):=by rw[cell_of hbx];rfl
  clear hgd he hGd hpr hGm kc h6 h2 h3 h4 hbx hfit hgm hput;generalize kC e.k=K0 at *;generalize e.id=K1' at *;generalize e.n=K2' at *
  gi_wp2_with fail
  refine⟨trivial,(CallsIn.inRound l (callsIn_wide.2 FW)).mono ?_⟩;rintro y w3 ⟨⟨z,rfl⟩,hz1,hz2,hz3⟩;clear FW
  gi_wp2
  exact⟨hz1,hz2,hz3⟩
 case done=>
  rintro D xs W hD ⟨hlen,-⟩ ⟨M,-,hI⟩ hK;rw[hwh,hln]at hlen;obtain⟨⟨Oc,rc,locc,kc,h6⟩,h2,h3,h4,h5⟩:=hI;rw[hlen,rvN_all]at kc;have hUp:Up w0.heap.size Oc W p (rvC v) q rc b bt locc:=⟨kc,rvC_good HGD.out,rfl⟩
  have hBW:Below w0.heap.size w0 W:=hW2.trans (h3.bel hW2.size (fun i _ e=>(bE1 i e).1.1))
  have WK:=cwake_at HG.out hBW hUp
  have hnD:¬Eo Oc D:=fun e=>by
   rcases(h6 _ e).2 with⟨cs,t,f,h⟩|⟨es,c,h⟩
   ·rw[hK]at h;cases h
   ·rw[hK]at h;cases h
  have FIN:Hid (∀w4,UStp w0.heap.size Oc W p ((idsC (rvC v).L).foldl wkC (rvC v)) q b bt locc w4→w4.heap[D]?=some (.deferred (some []))∧∃O' r' loc',Up w0.heap.size O' (w4.putObj D (.deferred none)) p ((idsC (rvC v).L).foldl wkC (rvC v)) q r' b bt loc'∧(∀i,Eo O' i→growE (Eo O) w (w4.putObj D (.deferred none)) i)∧Rg.Kept (fun i _=>Eo O i) w (w4.putObj D (.deferred none))):=fun w4 ⟨O4,r4,loc4,k4,g4,K4,l4⟩=>by
   have hD4:=K4.block _ _ hK hnD
   have hDl:D<W.heap.size:=(Array.getElem?_eq_some_iff.1 hK).1
   have nD4:¬Eo O4 D:=fun e=>(g4 D e).elim hnD (fun e=>by omega)
   have kp:Rg.Kept (fun i _=>i=D) w4 (w4.putObj D (.deferred none)):=kept_put _ hD4 rfl
   have hsz:=K4.size
   have hsz2:(w4.putObj D (.deferred none)).heap.size =w4.heap.size:=by simp
   refine⟨hD4,O4,r4,loc4,⟨k4.k.kept kp (fun x i o e e2=>nD4 ⟨x,e2▸e⟩),k4.g,k4.d⟩,fun i e=>?_,?_⟩
   ·rcases g4 i e with e2|e2
    ·rcases(h6 i e2).1.1 with e3|e3
     ·rw[←hE1]at e3;exact(hO1 i e3).1.imp id (fun e4=>⟨e4.1,by omega⟩)
     ·obtain⟨y,e4⟩:=e2;have:=(kc.bd y i e4).2
      exact .inr ⟨by omega,by omega⟩
    ·exact .inr ⟨by omega,by omega⟩
   ·have kb:Rg.Kept (fun k _=>Eo O k) w w2:=hk1.trans (zE hb)
    have kW:Rg.Kept (fun k _=>Eo O k) w W:=kept_more kb h3 (fun i o e=>by rw[←hE1]at e;exact(hO1 i e).1.imp id (fun e4=>e4.1))
    have k5:Rg.Kept (fun k _=>Eo O k) w w4:=kept_more kW K4 (fun i o e=>by
     rcases(h6 i e).1.1 with e3|e3
     ·rw[←hE1]at e3;exact(hO1 i e3).1.imp id (fun e4=>e4.1)
     ·exact .inr (by omega))
    exact kept_more k5 kp (fun i o e=> .inr (by omega))
  have hcb:=h2.cell
  clear hUp hBW kc h6 h2 h3 h4 h5 hnD hK
  gi_wp2_with fail
  refine⟨trivial,(callsIn_wide.2 WK).mono ?_⟩;rintro e w4 ⟨⟨x4,rfl⟩,hU4⟩;have HF:=FIN.out w4 hU4
  have hK4:=HF.1
  have HF2:=hide HF.2
  clear HF hU4 WK FIN
  gi_wp2
  refine⟨by simp,.inl ⟨_,_,rfl,run_takeDeferred hK4,?_⟩⟩;exact⟨_,results_none rfl _ _ _,⟨_,rfl⟩,HF2.out⟩
 case stop=>exact fun D c pre W _ _ h _=>h.elim
end
end Go.Proofs.YthfgmpooehkhgaaGreatDoor
namespace Go.Proofs.YthfgmpooehkhgaaGreatDoor
open Go.RowKit Sg Bl
def OSt(w:World)(o:Od)(a:Option Addr)(c:Nat)(u:World)(p:Nat)(O:Pt→Nat→Prop)(v:Ch):Prop:=Cu w O u p v∧Abc u O w.heap.size (.cells #[.int .i64 o.id,.int .i64 o.item,.int .i64 o.qty,.int .i64 o.client,.int .i64 o.price,.slice a o.steps.length c] 32)
section
variable {w u u':World}{o:Od}{a:Option Addr}{c p:Nat}{O O':Pt→Nat→Prop}{v v':Ch}
theorem OSt.step(h:OSt w o a c u p O v)(k:Cu w O' u' p v')(g:Go_ O u O' u'):OSt w o a c u' p O' v':=⟨k,h.2.step g⟩
theorem OSt.on(h:OSt w o a c u p O v)(hb:Below u.heap.size u u'):OSt w o a c u' p O v:=⟨h.1.on hb,h.2.on hb⟩
theorem OSt.new(hb:Below w.heap.size w u)(hx:u.heap[w.heap.size]?=some (.cells #[.int .i64 o.id,.int .i64 o.item,.int .i64 o.qty,.int .i64 o.client,.int .i64 o.price,.slice a o.steps.length c] 32))(x y z:Int):
 Calls Tryz.prog 9 #[.int .i64 x,.int .i64 y,.int .i64 z] u fun e w'=>∃p O,e= .returned (.pointer (some ⟨p,0,none⟩))∧OSt w o a c w' p O (newCh x y z):=by
 refine(Cu.new hb x y z).mono ?_
 rintro e w' ⟨p,O,h1,h2,h3,h4⟩
 have hlt:=(Array.getElem?_eq_some_iff.1 hx).1
 exact⟨p,O,h1,h2,(h3.block _ hlt).trans hx,fun e=>by have:=h4 _ e;omega⟩
theorem OSt.at0(k:OSt w o a c u p O v):u.heap[w.heap.size]?=some (.cells #[.int .i64 o.id,.int .i64 o.item,.int .i64 o.qty,.int .i64 o.client,.int .i64 o.price,.slice a o.steps.length c] 32):=k.2.1
theorem OSt.c06(k:OSt w o a c u p O v):u.cell? ⟨w.heap.size,0,none⟩=some (.int .i64 o.id)∧u.cell? ⟨w.heap.size,1,none⟩=some (.int .i64 o.item)∧u.cell? ⟨w.heap.size,2,none⟩=some (.int .i64 o.qty)∧u.cell? ⟨w.heap.size,3,none⟩=some (.int .i64 o.client)∧u.cell? ⟨w.heap.size,4,none⟩=some (.int .i64 o.price)∧u.cell? ⟨w.heap.size,5,none⟩=some (.slice a o.steps.length c):=by
 refine⟨?_,?_,?_,?_,?_,?_⟩<;>rw[cell_of k.at0]<;>rfl
theorem OSt.below(k:OSt w o a c u p O v):Below w.heap.size w u:=k.1.2
end
end Go.Proofs.YthfgmpooehkhgaaGreatDoor
namespace Go.Proofs.YthfgmpooehkhgaaGreatDoor
open Go.ChangeShapes Go.WideShapes Go.ChangeAt Go.RowKit Go.Maps Sg Bl
open Below renaming refl→zF
def Dn(w0:World)(O:Pt→Nat→Prop)(w:World)(p:Nat)(v:Ch):Prop:=(∃q r b bt loc Lq,CkV w0.heap.size O w p v q r b bt loc Lq∧JL Lq v)∧GoodCh v∧v.down=true∧Below w0.heap.size w0 w
section
variable {w0 w w':World}{O O':Pt→Nat→Prop}{p:Nat}{v v':Ch}
theorem Cu.crash(k:Cu w0 O w p v)(stay torn:Int)(hv:crC v stay=v'):
 Calls Tryz.prog 19 #[.pointer (some ⟨p,0,none⟩),.int .i64 stay,.int .i64 torn] w fun e w'=>∃O',(∃x,e= .returned x)∧Dn w0 O' w' p v'∧Go_ O w O' w':=by
 subst hv
 obtain⟨⟨q,r,b,bt,loc,h⟩,hb⟩:=k
 refine(ccrash_up h stay torn).mono ?_
 rintro e w' ⟨h1,O',r',b',h2,h3,h4⟩
 exact⟨O',h1,⟨⟨q,r',b',bt,_,_,h2,crC_jl h.g (fun x hx=>(h.k.jr.2.2.2.2.2 x hx).1) stay torn⟩,crC_good h.g stay,rfl,hb.trans (h4.bel h.k.low (fun i _ ⟨y,e⟩=>(h.k.bd y i e).1))⟩,h3,h4⟩
theorem Dn.start(hg:Gl w0)(k:Dn w0 O w p v)(hv:upC v=v'):
 Calls Tryz.prog 21 #[.pointer (some ⟨p,0,none⟩)] w fun e w'=>∃O',(∃x,e= .returned x)∧Cu w0 O' w' p v'∧Go_ O w O' w':=by
 subst hv
 obtain⟨⟨q,r,b,bt,loc,Lq,h1,h2⟩,h3,h4,h5⟩:=k
 refine(cstart_down hg h5 h1 h3 h4 h2).mono ?_
 rintro e w' ⟨e1,O',r',loc',k1,g1,K1⟩
 exact⟨O',e1,⟨⟨q,r',b,bt,loc',k1⟩,h5.trans (K1.bel h1.low (fun i _ ⟨y,e⟩=>(h1.bd y i e).1))⟩,g1,K1⟩
end
section
variable {w u:World}{o:Od}{a:Option Addr}{c p:Nat}{O:Pt→Nat→Prop}{v v':Ch}
theorem OSt.beginA(hg:Gl w)(w0:OdIn w o a c)(hm:mayO o=true)(k:OSt w o a c u p O v){n:Int}(hn:begE v o=n)(hv:begS v o=v'){xs:List Mg}(hx:begA v o=xs):
 Calls Tryz.prog 11 #[.pointer (some ⟨p,0,none⟩),.agg #[.int .i64 o.id,.int .i64 o.item,.int .i64 o.qty,.int .i64 o.client,.int .i64 o.price,.slice a o.steps.length c]] u fun e w'=>∃x y O',e= .returned (.tuple #[.slice x xs.length y,.int .i64 n])∧AnC w' O' x y xs∧OSt w o a c w' p O' v':=
 (k.1.begin hg o (w0.below k.1.2).2.1 w0.1 (wf_id (mayO_of hm).1.1 (mayO_of hm).1.2) hn hv hx).mono (fun _ _ ⟨x,y,O',e1,e2,e3,e4⟩=>⟨x,y,O',e1,e2,k.step e3 e4⟩)
end
def LSt(w:World)(o:Od)(a:Option Addr)(c:Nat)(sk:Nat)(s:Bool×Bool)(u:World)(p:Nat)(O:Pt→Nat→Prop)(v:Ch):Prop:=
 OSt w o a c u p O v∧Abc u O sk (.cells #[.bool s.1,.bool s.2] 65)∧w.heap.size<sk∧LsI o s v
section
variable {w u u':World}{o:Od}{a:Option Addr}{c sk:Nat}{s s':Bool×Bool}{p:Nat}{O O':Pt→Nat→Prop}{v v':Ch}
theorem LSt.step(h:LSt w o a c sk s u p O v)(k:OSt w o a c u' p O' v')(g:Go_ O u O' u')(hl:LsI o s v'):LSt w o a c sk s u' p O' v':=⟨k,h.2.1.step g,h.2.2.1,hl⟩
theorem LSt.on(h:LSt w o a c sk s u p O v)(hb:Below u.heap.size u u'):LSt w o a c sk s u' p O v:=⟨h.1.on hb,h.2.1.on hb,h.2.2.1,h.2.2.2⟩
theorem LSt.good(h:LSt w o a c sk s u p O v):GoodCh v:=h.1.1.good
theorem LSt.facts(hm:mayO o=true)(h:LSt w o a c sk s u p O v):
 Calls Tryz.prog 33 #[.pointer (some ⟨p,0,none⟩),.int .i64 o.id] u fun e w'=>∃(f:Fa)(sa:Option Addr)(sc:Nat)(da:Option Addr)(dc:Nat)(ua:Option Addr)(uc:Nat),e= .returned (.tuple #[.agg #[.int .i64 o.id,.int .i64 o.item,.int .i64 o.qty,.int .i64 o.client,.int .i64 o.price,.slice sa o.steps.length sc],.agg #[.slice da f.dn.length dc,.slice ua f.un.length uc,.bool f.asked,.bool f.yes,.bool f.turned,.bool f.k0,.bool f.k1,.bool f.ship,.bool f.d0,.bool f.d1,.bool f.acc],.bool true])∧FaIn w' f da dc ua uc∧mayF o f=true∧dy o v.T=(f.yes,f.turned)∧(f.yes=true→s=(true,true))∧Below u.heap.size u w':=by
 obtain⟨l,hl,e1,e2,e3⟩:=h.2.2.2.at_
 refine(h.1.1.facts (wf_id (mayO_of hm).1.1 (mayO_of hm).1.2) hl).mono ?_
 rintro e w' ⟨⟨sa,sc,da,dc,ua,uc,g1,-,g3⟩,hb⟩
 rw[e1]at g1
 exact⟨l.f,sa,sc,da,dc,ua,uc,g1,g3,e2.may hm,e3,fun hy=>h.2.2.2.sy (by rw[e3];exact hy),hb⟩
theorem Cu.beside{w0:World}(k:Cu w0 O u p v){b:Nat}(hb:¬Eo O b)(hlo:w0.heap.size≤b)(hk:Rg.Kept (fun i _=>i=b) u u'):Cu w0 O u' p v:=by
 obtain⟨⟨q,r,bm,bt,loc,h⟩,h2⟩:=k
 exact⟨⟨q,r,bm,bt,loc,⟨h.k.kept hk (fun x i _ e e2=>hb ⟨x,e2▸e⟩),h.g,h.d⟩⟩,h2.trans (hk.bel h2.size (fun i _ e=>by omega))⟩
theorem LSt.say(h:LSt w o a c sk s u p O v)(who:Int)(i:Nat)(hi:(who=0∧i=0)∨(who≠0∧i=1)):
 LSt w o a c sk (sdY s who) (u.setCell ⟨sk,i,none⟩ (.bool true)) p O v∧(∀ra rc ys,AnC u O ra rc ys→AnC (u.setCell ⟨sk,i,none⟩ (.bool true)) O ra rc ys)∧Rg.Kept (fun i _=>i=sk) u (u.setCell ⟨sk,i,none⟩ (.bool true)):=by
 obtain⟨h1,h2,h3,h4⟩:=h
 have hk:Rg.Kept (fun i _=>i=sk) u (u.setCell ⟨sk,i,none⟩ (.bool true)):=kept_set u sk i _
 refine⟨⟨⟨h1.1.beside h2.2 (by omega) hk,hk.block _ _ h1.2.1 (by omega),h1.2.2⟩,⟨?_,h2.2⟩,h3,h4.more (sdY_le s who).1 (sdY_le s who).2⟩,fun ra rc ys hA=>?_,hk⟩
 ·rw[heap_setCell_same _ _ _ _ _ _ h2.1];rcases hi with⟨e1,rfl⟩|⟨e1,rfl⟩
  ·unfold sdY;rw[if_pos e1];rfl
  ·unfold sdY;rw[if_neg e1];rfl
 ·obtain⟨⟨B0,q1⟩,q2⟩:=hA;refine⟨⟨B0,own_keptR q1 hk (fun j _ e e2=>?_)⟩,q2⟩;obtain⟨x,x1,x2⟩:=own_some e;obtain⟨cur,x3⟩:=row_obj q1 x1;exact two_cells x3 h2.1 (by decide) (x2.trans e2)
theorem LSt.c2(h:LSt w o a c sk s u p O v):u.cell? ⟨sk,0,none⟩=some (.bool s.1)∧u.cell? ⟨sk,1,none⟩=some (.bool s.2)∧u.frozen? ⟨sk,0,none⟩=false∧u.frozen? ⟨sk,1,none⟩=false:=by
 refine⟨?_,?_,frozen_of_row _ _ _ _ _ h.2.1.1,frozen_of_row _ _ _ _ _ h.2.1.1⟩<;>rw[cell_of h.2.1.1]<;>rfl
theorem LSt.new(h:OSt w o a c u p O v)(hl:LsI o (false,false) v):LSt w o a c u.heap.size (false,false) (u.alloc (.cells #[.bool false,.bool false] 65)) p O v:=by
 have hb:Below u.heap.size u (u.alloc (.cells #[.bool false,.bool false] 65)):=(zF _ _).alloc (Nat.le_refl _) _
 have hlt:=(Array.getElem?_eq_some_iff.1 h.2.1).1
 exact⟨h.on hb,⟨World.alloc_heap_new u _,fun e=>by have:=(h.1.lt e).2;omega⟩,hlt,hl⟩
end
def IdL(x:Int)(xs:List Mg):Prop:=∀m∈xs,m.id=x
theorem IdL.nil(x:Int):IdL x []:=fun m h=>by cases h
theorem fwd_id(o:Od)(f:Fa)(x:Int×Int):IdL o.id (fwdS o f x).1 :=by
 intro m hm
 unfold fwdS at hm
 split at hm
 ·split at hm
  ·cases hm
  ·rw[List.mem_singleton.1 hm];rfl
 ·split at hm
  ·split at hm
   ·cases hm
   ·unfold prepL at hm;simp only[List.mem_cons,List.not_mem_nil,or_false]at hm;rcases hm with rfl|rfl<;>rfl
  ·split at hm
   ·unfold decL at hm;rcases List.mem_append.1 hm with hm|hm
    ·split at hm
     ·cases hm
     ·rw[List.mem_singleton.1 hm];rfl
    ·split at hm
     ·cases hm
     ·rw[List.mem_singleton.1 hm];rfl
   ·split at hm
    ·split at hm
     ·cases hm
     ·rw[List.mem_singleton.1 hm];rfl
    ·cases hm
theorem bck_id(o:Od)(f:Fa)(x:Int×Int):IdL o.id (bckS o f x).1 :=by
 intro m hm
 unfold bckS at hm
 split at hm
 ·unfold decL at hm;rcases List.mem_append.1 hm with hm|hm
  ·split at hm
   ·cases hm
   ·rw[List.mem_singleton.1 hm];rfl
  ·split at hm
   ·cases hm
   ·rw[List.mem_singleton.1 hm];rfl
 ·split at hm
  ·split at hm
   ·cases hm
   ·rw[List.mem_singleton.1 hm];rfl
  ·cases hm
theorem next_id(o:Od)(f:Fa):IdL o.id (nextF o f):=by
 unfold nextF
 split
 ·exact IdL.nil _
 ·split
  ·exact runS_all _ _ (fun x _=>bck_id o f x) (fun m h=>by cases h)
  ·exact runS_all _ _ (fun x _=>fwd_id o f x) (fun m h=>by cases h)
theorem folL_id(l:Lk)(k:Nat)(n:List Int):(folL l k n).o.id =l.o.id:=by
 unfold folL
 split<;>rfl
theorem sendA_id(v:Ch)(l:Lk):IdL l.o.id (sendA v l):=by
 unfold sendA
 split
 ·exact IdL.nil _
 ·exact next_id _ _
theorem goA_id(v:Ch)(l:Lk):IdL l.o.id (goA v l):=by
 unfold goA
 split
 ·exact IdL.nil _
 ·exact sendA_id _ _
theorem ngA_id(v:Ch)(l:Lk)(k:Nat)(n:List Int):IdL l.o.id (ngA v l k n):=by
 unfold ngA
 split
 ·have:=goA_id (addC v [⟨k,l.o.id,n⟩]) (folL l k n)
  rwa [folL_id]at this
 ·exact IdL.nil _
theorem sgA_id(v:Ch)(l:Lk)(k:Nat)(n:List Int):IdL l.o.id (sgA v l k n):=by
 unfold sgA
 split
 ·have:=goA_id (sureC v [⟨k,l.o.id,n⟩]) (folL l k n)
  rwa [folL_id]at this
 ·exact IdL.nil _
theorem begA_id(v:Ch)(o:Od):IdL o.id (begA v o):=by
 unfold begA
 split
 ·exact goA_id (begV v o) (begL o)
 ·exact IdL.nil _
theorem canA_id(v:Ch)(x:Int){l:Lk}(hl:v.L x=some l):IdL l.o.id (canA v x):=by
 unfold canA
 rw[hl]
 dsimp only
 split
 ·exact IdL.nil _
 ·split
  ·exact IdL.nil _
  ·exact sgA_id _ _ _ _
theorem rngA_id(v:Ch)(x:Int){l:Lk}(hl:v.L x=some l):IdL l.o.id (rngA v x):=by
 unfold rngA
 rw[hl]
 dsimp only
 split
 ·exact IdL.nil _
 ·split
  ·split
   ·exact sendA_id _ _
   ·exact sgA_id _ _ _ _
  ·exact sendA_id _ _
theorem hdA_id(v:Ch)(m:Mg){l:Lk}(hl:v.L m.id=some l)(hm:l.o.id=m.id):IdL m.id (hdSA v m).2 :=by
 unfold hdSA
 split
 ·exact IdL.nil _
 ·split
  ·rw[hl];unfold ansA;dsimp only;intro x hx;split at hx
   ·rw[List.mem_singleton.1 hx]
   ·split at hx
    ·rw[List.mem_singleton.1 hx]
    ·cases hx
  ·rw[hl];dsimp only;split
   ·unfold keepSA;split
    ·show IdL m.id (yesA v l (m.fr-1))
     unfold yesA;split
     ·rw[←hm];exact sgA_id _ _ _ _
     ·exact IdL.nil _
    ·split
     ·rw[←hm];exact sgA_id _ _ _ _
     ·split
      ·rw[←hm];exact ngA_id _ _ _ _
      ·split
       ·show IdL m.id (dmgA v l m)
        unfold dmgA;split
        ·intro x hx;rw[List.mem_singleton.1 hx]
        ·split
         ·intro x hx;rcases List.mem_cons.1 hx with rfl|hx
          ·rfl
          ·rw[←hm];exact sgA_id _ _ _ _ x hx
         ·exact IdL.nil _
       ·exact IdL.nil _
   ·split
    ·unfold shipSA;split
     ·rw[←hm];exact ngA_id _ _ _ _
     ·exact IdL.nil _
    ·split
     ·unfold servSA;split
      ·rw[←hm];exact ngA_id _ _ _ _
      ·split
       ·rw[←hm];exact sgA_id _ _ _ _
       ·split
        ·rw[←hm];exact ngA_id _ _ _ _
        ·exact IdL.nil _
     ·exact IdL.nil _
def AnI(w:World)(O:Pt→Nat→Prop)(a:Option Addr)(c:Nat)(xs:List Mg)(x:Int):Prop:=AnC w O a c xs∧IdL x xs
section
variable {w u u':World}{o:Od}{a:Option Addr}{c sk:Nat}{s s':Bool×Bool}{p:Nat}{O O':Pt→Nat→Prop}{v v':Ch}
theorem AnI.step{ra:Option Addr}{rc:Nat}{xs:List Mg}{x:Int}(h:AnI u O ra rc xs x)(g:Go_ O u O' u'):AnI u' O' ra rc xs x:=⟨h.1.step g,h.2⟩
theorem AnI.on{ra:Option Addr}{rc:Nat}{xs:List Mg}{x:Int}(h:AnI u O ra rc xs x)(hb:Below u.heap.size u u'):AnI u' O ra rc xs x:=⟨h.1.on hb,h.2⟩
theorem AnI.nil(u:World)(O:Pt→Nat→Prop)(x:Int):AnI u O none 0 [] x:=⟨⟨⟨0,row_nil _ _ _ _⟩,fun ad e=>by cases e⟩,IdL.nil x⟩
def StI(w:World)(o:Od)(a:Option Addr)(c sk:Nat)(s':Bool×Bool)(p:Nat)(v:Ch)(ra:Option Addr)(rc:Nat)(ys:List Mg)(x:Option Addr)(y:Nat)(xs:List Mg)(u':World):Prop:=
 ∃O' v',LSt w o a c sk s' u' p O' v'∧AnI u' O' ra rc ys o.id∧AnI u' O' x y xs o.id∧Gr o v.T v'.T
theorem LSt.cancelI(hg:Gl w)(hm:mayO o=true)(h:LSt w o a c sk s u p O v){ra:Option Addr}{rc:Nat}{ys:List Mg}(hA:AnI u O ra rc ys o.id):
 Calls Tryz.prog 13 #[.pointer (some ⟨p,0,none⟩),.int .i64 o.id] u fun e w'=>∃x xs y n,e= .returned (.tuple #[.slice x (List.length xs) y,.int .i64 n])∧StI w o a c sk s p v ra rc ys x y xs w':=by
 obtain⟨l,hl,e0,-⟩:=h.2.2.2.at_
 have hi:=canA_id v o.id hl
 rw[e0]at hi
 exact(h.1.1.cancel hg (wf_id (mayO_of hm).1.1 (mayO_of hm).1.2) rfl rfl rfl).mono (fun _ _ ⟨x,y,O',e1,e2,e3,e4⟩=>⟨x,_,y,_,e1,O',_,h.step (h.1.step e3 e4) e4 (h.2.2.2.can hm).1,hA.step e4,⟨e2,hi⟩,(h.2.2.2.can hm).2⟩)
theorem LSt.acceptI(hg:Gl w)(hm:mayO o=true)(h:LSt w o a c sk s u p O v){ra:Option Addr}{rc:Nat}{ys:List Mg}(hA:AnI u O ra rc ys o.id):
 Calls Tryz.prog 15 #[.pointer (some ⟨p,0,none⟩),.int .i64 o.id] u fun e w'=>∃n,e= .returned (.int .i64 n)∧StI w o a c sk s p v ra rc ys none 0 [] w':=
 (h.1.1.accept hg (wf_id (mayO_of hm).1.1 (mayO_of hm).1.2) rfl rfl).mono (fun _ _ ⟨O',e1,e3,e4⟩=>⟨_,e1,O',_,h.step (h.1.step e3 e4) e4 h.2.2.2.acc.1,hA.step e4,AnI.nil _ _ _,h.2.2.2.acc.2⟩)
theorem LSt.ringI(hg:Gl w)(hm:mayO o=true)(h:LSt w o a c sk s u p O v){ra:Option Addr}{rc:Nat}{ys:List Mg}(hA:AnI u O ra rc ys o.id):
 Calls Tryz.prog 17 #[.pointer (some ⟨p,0,none⟩),.int .i64 o.id] u fun e w'=>∃x xs y,e= .returned (.slice x (List.length xs) y)∧StI w o a c sk s p v ra rc ys x y xs w':=by
 obtain⟨l,hl,e0,-⟩:=h.2.2.2.at_
 have hi:=rngA_id v o.id hl
 rw[e0]at hi
 exact(h.1.1.ring hg (wf_id (mayO_of hm).1.1 (mayO_of hm).1.2) rfl rfl).mono (fun _ _ ⟨x,y,O',e1,e2,e3,e4⟩=>⟨x,_,y,e1,O',_,h.step (h.1.step e3 e4) e4 (h.2.2.2.rng hm).1,hA.step e4,⟨e2,hi⟩,(h.2.2.2.rng hm).2⟩)
theorem LSt.handleI(hg:Gl w)(hm:mayO o=true){s0:Bool×Bool}{m:Mg}(h:LSt w o a c sk s u p O v)(h0:LsI o s0 v)(hs:sdM s0 m=s)(hid:m.id=o.id){ra:Option Addr}{rc:Nat}{ys:List Mg}(hA:AnI u O ra rc ys o.id):
 Calls Tryz.prog 24 #[.pointer (some ⟨p,0,none⟩),.agg #[.int .i64 m.k,.int .i64 m.fr,.int .i64 m.to,.int .i64 m.id,.int .i64 m.st,.int .i64 m.a,.int .i64 m.b]] u fun e w'=>∃x xs y,e= .returned (.slice x (List.length xs) y)∧StI w o a c sk s p v ra rc ys x y xs w':=by
 have hh:=h0.hd hm h.good.gm m
 rw[hs]at hh
 obtain⟨l,hl,e0,-⟩:=h0.at_
 have hi:=hdA_id v m (l:=l) (by rw[hid];exact hl) (by rw[hid,e0])
 rw[hid]at hi
 exact(h.1.1.handle hg m (by rw[hid];exact wf_id (mayO_of hm).1.1 (mayO_of hm).1.2) rfl rfl).mono (fun _ _ ⟨x,y,O',e1,e2,e3,e4⟩=>⟨x,_,y,e1,O',_,h.step (h.1.step e3 e4) e4 hh.1,hA.step e4,⟨e2,hi⟩,hh.2⟩)
theorem LSt.downupI(hg:Gl w)(hm:mayO o=true)(h:LSt w o a c sk s u p O v){ra:Option Addr}{rc:Nat}{ys:List Mg}(hA:AnI u O ra rc ys o.id)(stay torn:Int):
 Calls Tryz.prog 19 #[.pointer (some ⟨p,0,none⟩),.int .i64 stay,.int .i64 torn] u fun e w'=>(∃x,e= .returned x)∧Calls Tryz.prog 21 #[.pointer (some ⟨p,0,none⟩)] w' fun e w''=>(∃x,e= .returned x)∧StI w o a c sk s p v ra rc ys none 0 [] w'':=by
 have hd:=h.2.2.2.down hm h.good stay
 refine(h.1.1.crash stay torn rfl).mono ?_
 rintro e w' ⟨O1,e1,e2,e3⟩
 refine⟨e1,(e2.start hg rfl).mono ?_⟩
 rintro e w'' ⟨O2,g1,g2,g3⟩
 exact⟨g1,O2,_,⟨⟨g2,(h.1.2.step e3).step g3⟩,(h.2.1.step e3).step g3,h.2.2.1,hd.1⟩,(hA.step e3).step g3,AnI.nil _ _ _,hd.2⟩
end
def loopsL:Code→List Code
 | .loop c=>[c]
 | .seq a b=>loopsL a++loopsL b
 | .block _ c=>loopsL c
 | .scope c=>loopsL c
 | .cond _ a b=>loopsL a++loopsL b
 |_=>[]
def sndC:Code→Code
 | .seq _ b=>b
 |c=>c
def fstC:Code→Code
 | .seq a _=>a
 |c=>c
def blkC:Code→Code
 | .block _ c=>c
 |c=>c
def SaidY(o:Od)(v:Ch)(yb nb:Bool):Prop:=(yb=true→(dy o v.T).1 =true)∧(nb=true→(dy o v.T).2 =true)
theorem SaidY.gr{o:Od}{v v':Ch}{yb nb:Bool}(h:SaidY o v yb nb)(g:Gr o v.T v'.T):SaidY o v' yb nb:=⟨fun e=>g.1 (h.1 e),fun e=>g.2 (h.2 e)⟩
set_option maxRecDepth 1000000 in
def LI(w:World)(o:Od)(a:Option Addr)(c sk p:Nat)(l:List C22.Cl)(a1:Option Addr)(cap:Nat)(g0 g1 g3 g4 g7 g11 g18 g19 g20 g21 g22 g23 g24 g25 g26 g27 g28 g29 g30 g31 g32 g33 g34 g35 g36 g180:Value)(act:Act)(wr:World):Prop:=
 ∃(j:Nat)(s:Bool×Bool)(v:Ch)(O:Pt→Nat→Prop)(ra:Option Addr)(rc:Nat)(ys:List Mg)(yb nb:Bool)(g39 g12 g13 g14 g15 g16 g17 g40 g41 g42 g43 g44 g45 g46 g47 g48 g49 g50 g51 g52 g53 g54 g55 g56 g57 g58 g59 g60 g61 g62 g63 g64 g65 g66 g67 g68 g69 g70 g71 g72 g73 g74 g75 g76 g77 g78 g79 g80 g81 g82 g83 g84 g85 g86 g87 g88 g89 g90 g91 g92 g93 g94 g95 g96 g97 g98 g99 g100 g101 g102 g103 g104 g105 g106 g107 g108 g109 g110 g111 g112 g113 g114 g115 g116 g117 g118 g119 g120 g121 g122 g123 g124 g125 g126 g127 g128 g129 g130 g131 g132 g133 g134 g135 g136 g137 g138 g139 g140 g141 g142 g143 g144 g145 g146 g147 g148 g149 g150 g151 g152 g153 g154 g155 g156 g157 g158 g159 g160 g161 g162 g163 g164 g165 g166 g167 g168 g169 g170 g171 g172 g173 g174 g175 g176 g177 g178 g179:Value),g39= .int .i64 j∧j≤l.length∧Hid (LSt w o a c sk s wr p O v)∧Hid (AnI wr O ra rc ys o.id)∧Hid (SaidY o v yb nb)∧act=⟨#[g0,g1,.pointer (some ⟨w.heap.size,0,none⟩),g3,g4,.pointer (some ⟨p,0,none⟩),.slice ra ys.length rc,g7,.bool yb,.bool nb,.pointer (some ⟨sk,0,none⟩),g11,g12,g13,g14,g15,g16,g17,g18,g19,g20,g21,g22,g23,g24,g25,g26,g27,g28,g29,g30,g31,g32,g33,g34,g35,g36,.slice a1 l.length cap,.int .i64 (l.length:Int),g39,g40,g41,g42,g43,g44,g45,g46,g47,g48,g49,g50,g51,g52,g53,g54,g55,g56,g57,g58,g59,g60,g61,g62,g63,g64,g65,g66,g67,g68,g69,g70,g71,g72,g73,g74,g75,g76,g77,g78,g79,g80,g81,g82,g83,g84,g85,g86,g87,g88,g89,g90,g91,g92,g93,g94,g95,g96,g97,g98,g99,g100,g101,g102,g103,g104,g105,g106,g107,g108,g109,g110,g111,g112,g113,g114,g115,g116,g117,g118,g119,g120,g121,g122,g123,g124,g125,g126,g127,g128,g129,g130,g131,g132,g133,g134,g135,g136,g137,g138,g139,g140,g141,g142,g143,g144,g145,g146,g147,g148,g149,g150,g151,g152,g153,g154,g155,g156,g157,g158,g159,g160,g161,g162,g163,g164,g165,g166,g167,g168,g169,g170,g171,g172,g173,g174,g175,g176,g177,g178,g179,g180],[]⟩
def Lmu(n:Nat)(act:Act)(_:World):Nat:=n-(Go.RowKit.intOf (act.tmps.getD 39 undef)).toNat
set_option maxRecDepth 1000000 in
def LP(w:World)(o:Od)(a:Option Addr)(c sk p:Nat)(l:List C22.Cl)(a1:Option Addr)(cap:Nat)(j:Nat)(g0 g1 g3 g4 g7 g11 g18 g19 g20 g21 g22 g23 g24 g25 g26 g27 g28 g29 g30 g31 g32 g33 g34 g35 g36 g180:Value)(act:Act)(wr:World):Prop:=
 ∃(s:Bool×Bool)(v:Ch)(O:Pt→Nat→Prop)(ra:Option Addr)(rc:Nat)(ys:List Mg)(yb nb:Bool)(g12 g13 g14 g15 g16 g17 g40 g41 g42 g43 g44 g45 g46 g47 g48 g49 g50 g51 g52 g53 g54 g55 g56 g57 g58 g59 g60 g61 g62 g63 g64 g65 g66 g67 g68 g69 g70 g71 g72 g73 g74 g75 g76 g77 g78 g79 g80 g81 g82 g83 g84 g85 g86 g87 g88 g89 g90 g91 g92 g93 g94 g95 g96 g97 g98 g99 g100 g101 g102 g103 g104 g105 g106 g107 g108 g109 g110 g111 g112 g113 g114 g115 g116 g117 g118 g119 g120 g121 g122 g123 g124 g125 g126 g127 g128 g129 g130 g131 g132 g133 g134 g135 g136 g137 g138 g139 g140 g141 g142 g143 g144 g145 g146 g147 g148 g149 g150 g151 g152 g153 g154 g155 g156 g157 g158 g159 g160 g161 g162 g163 g164 g165 g166 g167 g168 g169 g170 g171 g172 g173 g174 g175 g176 g177 g178 g179:Value),Hid (LSt w o a c sk s wr p O v)∧Hid (AnI wr O ra rc ys o.id)∧Hid (SaidY o v yb nb)∧act=⟨#[g0,g1,.pointer (some ⟨w.heap.size,0,none⟩),g3,g4,.pointer (some ⟨p,0,none⟩),.slice ra ys.length rc,g7,.bool yb,.bool nb,.pointer (some ⟨sk,0,none⟩),g11,g12,g13,g14,g15,g16,g17,g18,g19,g20,g21,g22,g23,g24,g25,g26,g27,g28,g29,g30,g31,g32,g33,g34,g35,g36,.slice a1 l.length cap,.int .i64 (l.length:Int),.int .i64 (j:Int),g40,g41,g42,g43,g44,g45,g46,g47,g48,g49,g50,g51,g52,g53,g54,g55,g56,g57,g58,g59,g60,g61,g62,g63,g64,g65,g66,g67,g68,g69,g70,g71,g72,g73,g74,g75,g76,g77,g78,g79,g80,g81,g82,g83,g84,g85,g86,g87,g88,g89,g90,g91,g92,g93,g94,g95,g96,g97,g98,g99,g100,g101,g102,g103,g104,g105,g106,g107,g108,g109,g110,g111,g112,g113,g114,g115,g116,g117,g118,g119,g120,g121,g122,g123,g124,g125,g126,g127,g128,g129,g130,g131,g132,g133,g134,g135,g136,g137,g138,g139,g140,g141,g142,g143,g144,g145,g146,g147,g148,g149,g150,g151,g152,g153,g154,g155,g156,g157,g158,g159,g160,g161,g162,g163,g164,g165,g166,g167,g168,g169,g170,g171,g172,g173,g174,g175,g176,g177,g178,g179,g180],[]⟩
set_option maxRecDepth 1000000 in
set_option maxHeartbeats 8000000 in
theorem las_rest2{w:World}{o:Od}{a:Option Addr}{c sk p:Nat}{l:List C22.Cl}{a1:Option Addr}{cap:Nat}{g0 g1 g3 g4 g7 g11 g18 g19 g20 g21 g22 g23 g24 g25 g26 g27 g28 g29 g30 g31 g32 g33 g34 g35 g36 g180 g12 g13 g14 g15 g16 g17 g40 g41 g42 g43 g44 g45 g46 g47 g48 g49 g50 g51 g52 g53 g54 g55 g56 g57 g58 g59 g60 g61 g62 g63 g64 g65 g66 g67 g68 g69 g70 g71 g72 g73 g74 g75 g76 g77 g78 g79 g80 g81 g82 g83 g84 g85 g86 g87 g88 g89 g90 g91 g92 g93 g94 g95 g96 g97 g98 g99 g100 g101 g102 g103 g104 g105 g106 g107 g108 g109 g110 g111 g112 g113 g114 g115 g116 g117 g118 g119 g120 g121 g122 g123 g124 g125 g126 g127 g128 g129 g130 g131 g132 g133 g134 g135 g136 g137 g138 g139 g140 g141 g142 g143 g144 g145 g146 g147 g148 g149 g150 g151 g152 g153 g154 g155 g156 g157 g158 g159 g160 g161 g162 g163 g164 g165 g166 g167 g168 g169 g170 g171 g172 g173 g174 g175 g176 g177 g178 g179:Value}{wx:World}{Q1:Exit→Act→World→Prop}{j rc:Nat}{s:Bool×Bool}{v:Ch}{O:Pt→Nat→Prop}{ra:Option Addr}{ys:List Mg}{yb nb:Bool}(HM:Hid (mayO o=true))(HOD:Hid (OdIn w o a c))
 (HK:Hid (LSt w o a c sk s wx p O v)) (HA:Hid (AnI wx O ra rc ys o.id)) (HY:Hid (SaidY o v yb nb)) (hn:∀a' w',LP w o a c sk p l a1 cap j g0 g1 g3 g4 g7 g11 g18 g19 g20 g21 g22 g23 g24 g25 g26 g27 g28 g29 g30 g31 g32 g33 g34 g35 g36 g180 a' w'→Q1 .normal a' w'):
 Code.wp Tryz.prog (sndC (sndC (sndC (sndC (blkC (fstC (sndC (sndC (((Tryz.f4.body.bind (fun c=>(loopsL c)[0]?)).getD .skip)))))))))) Q1 ⟨#[g0,g1,.pointer (some ⟨w.heap.size,0,none⟩),g3,g4,.pointer (some ⟨p,0,none⟩),.slice ra ys.length rc,g7,.bool yb,.bool nb,.pointer (some ⟨sk,0,none⟩),g11,g12,g13,g14,g15,g16,g17,g18,g19,g20,g21,g22,g23,g24,g25,g26,g27,g28,g29,g30,g31,g32,g33,g34,g35,g36,.slice a1 l.length cap,.int .i64 (l.length:Int),.int .i64 (j:Int),g40,g41,g42,g43,g44,g45,g46,g47,g48,g49,g50,g51,g52,g53,g54,g55,g56,g57,g58,g59,g60,g61,g62,g63,g64,g65,g66,g67,g68,g69,g70,g71,g72,g73,g74,g75,g76,g77,g78,g79,g80,g81,g82,g83,g84,g85,g86,g87,g88,g89,g90,g91,g92,g93,g94,g95,g96,g97,g98,g99,g100,g101,g102,g103,g104,g105,g106,g107,g108,g109,g110,g111,g112,g113,g114,g115,g116,g117,g118,g119,g120,g121,g122,g123,g124,g125,g126,g127,g128,g129,g130,g131,g132,g133,g134,g135,g136,g137,g138,g139,g140,g141,g142,g143,g144,g145,g146,g147,g148,g149,g150,g151,g152,g153,g154,g155,g156,g157,g158,g159,g160,g161,g162,g163,g164,g165,g166,g167,g168,g169,g170,g171,g172,g173,g174,g175,g176,g177,g178,g179,g180],[]⟩ wx:=by
 have FC:=HK.out.facts HM.out
 obtain⟨x0,-,-,-,-,-⟩:=HK.out.1.c06
 have HN:=hide hn
 clear hn
 conv=>arg 2;whnf
 go_wp2_with fail
 refine FC.mono ?_
 clear FC x0
 rintro e u1 ⟨⟨dn,un,ask,ye,tu,k0,k1,sh,d0,d1,ac⟩,sa,sc,da,dc,ua,uc,rfl,hF,hM,hD,hS,hb⟩
 obtain⟨V,hV⟩:∃V,(u1.alloc (.cells #[.int .i64 o.id,.int .i64 o.item,.int .i64 o.qty,.int .i64 o.client,.int .i64 o.price,.slice sa o.steps.length sc] 32)).alloc (.cells #[.slice da dn.length dc,.slice ua un.length uc,.bool ask,.bool ye,.bool tu,.bool k0,.bool k1,.bool sh,.bool d0,.bool d1,.bool ac] 68)=V:=⟨_,rfl⟩
 have h4:Below u1.heap.size u1 V:=by rw[←hV];exact((zF _ _).alloc (Nat.le_refl _) _).alloc (by simp) _
 have hf:V.heap[u1.heap.size+1]?=some (.cells #[.slice da dn.length dc,.slice ua un.length uc,.bool ask,.bool ye,.bool tu,.bool k0,.bool k1,.bool sh,.bool d0,.bool d1,.bool ac] 68 (0,0)):=by
  have h1:=World.alloc_heap_new (u1.alloc (.cells #[.int .i64 o.id,.int .i64 o.item,.int .i64 o.qty,.int .i64 o.client,.int .i64 o.price,.slice sa o.steps.length sc] 32)) (.cells #[.slice da dn.length dc,.slice ua un.length uc,.bool ask,.bool ye,.bool tu,.bool k0,.bool k1,.bool sh,.bool d0,.bool d1,.bool ac] 68)
  rw[World.size_alloc]at h1;rw[←hV];exact h1
 have hbV:=bel_on' hb h4
 have KV:=hide (HK.out.on hbV)
 have AV:=hide (HA.out.on hbV)
 have MY:=smay_any o a c ⟨dn,un,ask,ye,tu,k0,k1,sh,d0,d1,ac⟩ da dc ua uc V (HOD.out.below KV.out.1.below).2.1 HOD.out.1 (hF.below h4)
 rw[hM]at MY
 obtain⟨x0,x1,x2,x3,x4,x5⟩:=KV.out.1.c06
 have y0:V.cell? ⟨u1.heap.size+1,0,none⟩=some (.slice da dn.length dc):=by rw[cell_of hf];rfl
 have y1:V.cell? ⟨u1.heap.size+1,1,none⟩=some (.slice ua un.length uc):=by rw[cell_of hf];rfl
 have y2:V.cell? ⟨u1.heap.size+1,2,none⟩=some (.bool ask):=by rw[cell_of hf];rfl
 have y3:V.cell? ⟨u1.heap.size+1,3,none⟩=some (.bool ye):=by rw[cell_of hf];rfl
 have y4:V.cell? ⟨u1.heap.size+1,4,none⟩=some (.bool tu):=by rw[cell_of hf];rfl
 have y5:V.cell? ⟨u1.heap.size+1,5,none⟩=some (.bool k0):=by rw[cell_of hf];rfl
 have y6:V.cell? ⟨u1.heap.size+1,6,none⟩=some (.bool k1):=by rw[cell_of hf];rfl
 have y7:V.cell? ⟨u1.heap.size+1,7,none⟩=some (.bool sh):=by rw[cell_of hf];rfl
 have y8:V.cell? ⟨u1.heap.size+1,8,none⟩=some (.bool d0):=by rw[cell_of hf];rfl
 have y9:V.cell? ⟨u1.heap.size+1,9,none⟩=some (.bool d1):=by rw[cell_of hf];rfl
 have y10:V.cell? ⟨u1.heap.size+1,10,none⟩=some (.bool ac):=by rw[cell_of hf];rfl
 have HF:=hide hf
 have HYY:Hid ((yb=true→ye=true)∧(nb=true→tu=true)):=by
  have h:=HY.out
  unfold SaidY at h;rw[hD]at h;exact h
 have HYN:Hid (SaidY o v ye tu):=by
  show SaidY o v ye tu
  unfold SaidY;rw[hD];exact⟨id,id⟩
 have HSS:=hide hS
 go_upto_region 34 with fail
 clear hF hM hD hS hb hV h4 hf hbV HK HA HY HOD HM
 have BRG:Hid (∀u,Below V.heap.size V u→LSt w o a c sk s u p O v∧AnI u O ra rc ys o.id∧u.cell? ⟨u1.heap.size+1,3,none⟩=some (.bool ye)∧u.cell? ⟨u1.heap.size+1,4,none⟩=some (.bool tu)):=fun u hu=>⟨KV.out.on hu,AV.out.on hu,cellL y3 hu,cellL y4 hu⟩
 clear KV AV HF
 cases ye
 ·obtain rfl:yb=false:=by
   cases yb
   ·rfl
   ·exact absurd (HYY.out.1 rfl) (by decide)
  cases tu
  ·obtain rfl:nb=false:=by
    cases nb
    ·rfl
    ·exact absurd (HYY.out.2 rfl) (by decide)
   go_wp2_with(go_at_call 34;refine MY.mono ?_;clear MY x0 x1 x2 x3 x4 x5 y0 y1 y2 y3 y4 y5 y6 y7 y8 y9 y10;rintro e u2 ⟨rfl,hb2⟩;obtain⟨k1,k2,z3,z4⟩:=BRG.out _ hb2;have K1:=hide k1;have K2:=hide k2;clear k1 k2 hb2 BRG)
   go_region
   all_goals go_wp2
   all_goals exact HN.out _ _ ⟨_,v,O,ra,rc,ys,false,false,_,_,_,_,_,_,_,_,_,_,_,_,_,_,_,_,_,_,_,_,_,_,_,_,_,_,_,_,_,_,_,_,_,_,_,_,_,_,_,_,_,_,_,_,_,_,_,_,_,_,_,_,_,_,_,_,_,_,_,_,_,_,_,_,_,_,_,_,_,_,_,_,_,_,_,_,_,_,_,_,_,_,_,_,_,_,_,_,_,_,_,_,_,_,_,_,_,_,_,_,_,_,_,_,_,_,_,_,_,_,_,_,_,_,_,_,_,_,_,_,_,_,_,_,_,_,_,_,_,_,_,_,_,_,_,_,_,_,_,_,_,_,_,_,_,_,K1.out.on (zF _ _).drew,K2.out.on (zF _ _).drew,HYN,rfl⟩
  ·cases nb
   ·go_wp2_with(go_at_call 34;refine MY.mono ?_;clear MY x0 x1 x2 x3 x4 x5 y0 y1 y2 y3 y4 y5 y6 y7 y8 y9 y10;rintro e u2 ⟨rfl,hb2⟩;obtain⟨k1,k2,z3,z4⟩:=BRG.out _ hb2;have K1:=hide k1;have K2:=hide k2;clear k1 k2 hb2 BRG)
    go_region
    all_goals go_wp2
    all_goals exact HN.out _ _ ⟨_,v,O,ra,rc,ys,false,true,_,_,_,_,_,_,_,_,_,_,_,_,_,_,_,_,_,_,_,_,_,_,_,_,_,_,_,_,_,_,_,_,_,_,_,_,_,_,_,_,_,_,_,_,_,_,_,_,_,_,_,_,_,_,_,_,_,_,_,_,_,_,_,_,_,_,_,_,_,_,_,_,_,_,_,_,_,_,_,_,_,_,_,_,_,_,_,_,_,_,_,_,_,_,_,_,_,_,_,_,_,_,_,_,_,_,_,_,_,_,_,_,_,_,_,_,_,_,_,_,_,_,_,_,_,_,_,_,_,_,_,_,_,_,_,_,_,_,_,_,_,_,_,_,_,_,K1.out.on (zF _ _).drew,K2.out.on (zF _ _).drew,HYN,rfl⟩
   ·go_wp2_with(go_at_call 34;refine MY.mono ?_;clear MY x0 x1 x2 x3 x4 x5 y0 y1 y2 y3 y4 y5 y6 y7 y8 y9 y10;rintro e u2 ⟨rfl,hb2⟩;obtain⟨k1,k2,z3,z4⟩:=BRG.out _ hb2;have K1:=hide k1;have K2:=hide k2;clear k1 k2 hb2 BRG)
    go_region
    all_goals go_wp2
    all_goals exact HN.out _ _ ⟨_,v,O,ra,rc,ys,false,true,_,_,_,_,_,_,_,_,_,_,_,_,_,_,_,_,_,_,_,_,_,_,_,_,_,_,_,_,_,_,_,_,_,_,_,_,_,_,_,_,_,_,_,_,_,_,_,_,_,_,_,_,_,_,_,_,_,_,_,_,_,_,_,_,_,_,_,_,_,_,_,_,_,_,_,_,_,_,_,_,_,_,_,_,_,_,_,_,_,_,_,_,_,_,_,_,_,_,_,_,_,_,_,_,_,_,_,_,_,_,_,_,_,_,_,_,_,_,_,_,_,_,_,_,_,_,_,_,_,_,_,_,_,_,_,_,_,_,_,_,_,_,_,_,_,_,K1.out.on (zF _ _).drew,K2.out.on (zF _ _).drew,HYN,rfl⟩
 ·obtain rfl:s=(true,true):=HSS.out rfl;cases yb
  ·cases tu
   ·obtain rfl:nb=false:=by
     cases nb
     ·rfl
     ·exact absurd (HYY.out.2 rfl) (by decide)
    go_wp2_with(go_at_call 34;refine MY.mono ?_;clear MY x0 x1 x2 x3 x4 x5 y0 y1 y2 y3 y4 y5 y6 y7 y8 y9 y10;rintro e u2 ⟨rfl,hb2⟩;obtain⟨k1,k2,z3,z4⟩:=BRG.out _ hb2;have z5:u2.cell? ⟨sk,0,none⟩=some (.bool true):=k1.c2.1;have z6:u2.cell? ⟨sk,1,none⟩=some (.bool true):=k1.c2.2.1;have K1:=hide k1;have K2:=hide k2;clear k1 k2 hb2 BRG)
    go_region
    all_goals go_wp2
    all_goals exact HN.out _ _ ⟨_,v,O,ra,rc,ys,true,false,_,_,_,_,_,_,_,_,_,_,_,_,_,_,_,_,_,_,_,_,_,_,_,_,_,_,_,_,_,_,_,_,_,_,_,_,_,_,_,_,_,_,_,_,_,_,_,_,_,_,_,_,_,_,_,_,_,_,_,_,_,_,_,_,_,_,_,_,_,_,_,_,_,_,_,_,_,_,_,_,_,_,_,_,_,_,_,_,_,_,_,_,_,_,_,_,_,_,_,_,_,_,_,_,_,_,_,_,_,_,_,_,_,_,_,_,_,_,_,_,_,_,_,_,_,_,_,_,_,_,_,_,_,_,_,_,_,_,_,_,_,_,_,_,_,_,K1.out.on (zF _ _).drew,K2.out.on (zF _ _).drew,HYN,rfl⟩
   ·cases nb
    ·go_wp2_with(go_at_call 34;refine MY.mono ?_;clear MY x0 x1 x2 x3 x4 x5 y0 y1 y2 y3 y4 y5 y6 y7 y8 y9 y10;rintro e u2 ⟨rfl,hb2⟩;obtain⟨k1,k2,z3,z4⟩:=BRG.out _ hb2;have z5:u2.cell? ⟨sk,0,none⟩=some (.bool true):=k1.c2.1;have z6:u2.cell? ⟨sk,1,none⟩=some (.bool true):=k1.c2.2.1;have K1:=hide k1;have K2:=hide k2;clear k1 k2 hb2 BRG)
     go_region
     all_goals go_wp2
     all_goals exact HN.out _ _ ⟨_,v,O,ra,rc,ys,true,true,_,_,_,_,_,_,_,_,_,_,_,_,_,_,_,_,_,_,_,_,_,_,_,_,_,_,_,_,_,_,_,_,_,_,_,_,_,_,_,_,_,_,_,_,_,_,_,_,_,_,_,_,_,_,_,_,_,_,_,_,_,_,_,_,_,_,_,_,_,_,_,_,_,_,_,_,_,_,_,_,_,_,_,_,_,_,_,_,_,_,_,_,_,_,_,_,_,_,_,_,_,_,_,_,_,_,_,_,_,_,_,_,_,_,_,_,_,_,_,_,_,_,_,_,_,_,_,_,_,_,_,_,_,_,_,_,_,_,_,_,_,_,_,_,_,_,K1.out.on (zF _ _).drew,K2.out.on (zF _ _).drew,HYN,rfl⟩
    ·go_wp2_with(go_at_call 34;refine MY.mono ?_;clear MY x0 x1 x2 x3 x4 x5 y0 y1 y2 y3 y4 y5 y6 y7 y8 y9 y10;rintro e u2 ⟨rfl,hb2⟩;obtain⟨k1,k2,z3,z4⟩:=BRG.out _ hb2;have z5:u2.cell? ⟨sk,0,none⟩=some (.bool true):=k1.c2.1;have z6:u2.cell? ⟨sk,1,none⟩=some (.bool true):=k1.c2.2.1;have K1:=hide k1;have K2:=hide k2;clear k1 k2 hb2 BRG)
     go_region
     all_goals go_wp2
     all_goals exact HN.out _ _ ⟨_,v,O,ra,rc,ys,true,true,_,_,_,_,_,_,_,_,_,_,_,_,_,_,_,_,_,_,_,_,_,_,_,_,_,_,_,_,_,_,_,_,_,_,_,_,_,_,_,_,_,_,_,_,_,_,_,_,_,_,_,_,_,_,_,_,_,_,_,_,_,_,_,_,_,_,_,_,_,_,_,_,_,_,_,_,_,_,_,_,_,_,_,_,_,_,_,_,_,_,_,_,_,_,_,_,_,_,_,_,_,_,_,_,_,_,_,_,_,_,_,_,_,_,_,_,_,_,_,_,_,_,_,_,_,_,_,_,_,_,_,_,_,_,_,_,_,_,_,_,_,_,_,_,_,_,K1.out.on (zF _ _).drew,K2.out.on (zF _ _).drew,HYN,rfl⟩
  ·cases tu
   ·obtain rfl:nb=false:=by
     cases nb
     ·rfl
     ·exact absurd (HYY.out.2 rfl) (by decide)
    go_wp2_with(go_at_call 34;refine MY.mono ?_;clear MY x0 x1 x2 x3 x4 x5 y0 y1 y2 y3 y4 y5 y6 y7 y8 y9 y10;rintro e u2 ⟨rfl,hb2⟩;obtain⟨k1,k2,z3,z4⟩:=BRG.out _ hb2;have z5:u2.cell? ⟨sk,0,none⟩=some (.bool true):=k1.c2.1;have z6:u2.cell? ⟨sk,1,none⟩=some (.bool true):=k1.c2.2.1;have K1:=hide k1;have K2:=hide k2;clear k1 k2 hb2 BRG)
    go_region
    all_goals go_wp2
    all_goals exact HN.out _ _ ⟨_,v,O,ra,rc,ys,true,false,_,_,_,_,_,_,_,_,_,_,_,_,_,_,_,_,_,_,_,_,_,_,_,_,_,_,_,_,_,_,_,_,_,_,_,_,_,_,_,_,_,_,_,_,_,_,_,_,_,_,_,_,_,_,_,_,_,_,_,_,_,_,_,_,_,_,_,_,_,_,_,_,_,_,_,_,_,_,_,_,_,_,_,_,_,_,_,_,_,_,_,_,_,_,_,_,_,_,_,_,_,_,_,_,_,_,_,_,_,_,_,_,_,_,_,_,_,_,_,_,_,_,_,_,_,_,_,_,_,_,_,_,_,_,_,_,_,_,_,_,_,_,_,_,_,_,K1.out.on (zF _ _).drew,K2.out.on (zF _ _).drew,HYN,rfl⟩
   ·cases nb
    ·go_wp2_with(go_at_call 34;refine MY.mono ?_;clear MY x0 x1 x2 x3 x4 x5 y0 y1 y2 y3 y4 y5 y6 y7 y8 y9 y10;rintro e u2 ⟨rfl,hb2⟩;obtain⟨k1,k2,z3,z4⟩:=BRG.out _ hb2;have z5:u2.cell? ⟨sk,0,none⟩=some (.bool true):=k1.c2.1;have z6:u2.cell? ⟨sk,1,none⟩=some (.bool true):=k1.c2.2.1;have K1:=hide k1;have K2:=hide k2;clear k1 k2 hb2 BRG)
     go_region
     all_goals go_wp2
     all_goals exact HN.out _ _ ⟨_,v,O,ra,rc,ys,true,true,_,_,_,_,_,_,_,_,_,_,_,_,_,_,_,_,_,_,_,_,_,_,_,_,_,_,_,_,_,_,_,_,_,_,_,_,_,_,_,_,_,_,_,_,_,_,_,_,_,_,_,_,_,_,_,_,_,_,_,_,_,_,_,_,_,_,_,_,_,_,_,_,_,_,_,_,_,_,_,_,_,_,_,_,_,_,_,_,_,_,_,_,_,_,_,_,_,_,_,_,_,_,_,_,_,_,_,_,_,_,_,_,_,_,_,_,_,_,_,_,_,_,_,_,_,_,_,_,_,_,_,_,_,_,_,_,_,_,_,_,_,_,_,_,_,_,K1.out.on (zF _ _).drew,K2.out.on (zF _ _).drew,HYN,rfl⟩
    ·go_wp2_with(go_at_call 34;refine MY.mono ?_;clear MY x0 x1 x2 x3 x4 x5 y0 y1 y2 y3 y4 y5 y6 y7 y8 y9 y10;rintro e u2 ⟨rfl,hb2⟩;obtain⟨k1,k2,z3,z4⟩:=BRG.out _ hb2;have z5:u2.cell? ⟨sk,0,none⟩=some (.bool true):=k1.c2.1;have z6:u2.cell? ⟨sk,1,none⟩=some (.bool true):=k1.c2.2.1;have K1:=hide k1;have K2:=hide k2;clear k1 k2 hb2 BRG)
     go_region
     all_goals go_wp2
     all_goals exact HN.out _ _ ⟨_,v,O,ra,rc,ys,true,true,_,_,_,_,_,_,_,_,_,_,_,_,_,_,_,_,_,_,_,_,_,_,_,_,_,_,_,_,_,_,_,_,_,_,_,_,_,_,_,_,_,_,_,_,_,_,_,_,_,_,_,_,_,_,_,_,_,_,_,_,_,_,_,_,_,_,_,_,_,_,_,_,_,_,_,_,_,_,_,_,_,_,_,_,_,_,_,_,_,_,_,_,_,_,_,_,_,_,_,_,_,_,_,_,_,_,_,_,_,_,_,_,_,_,_,_,_,_,_,_,_,_,_,_,_,_,_,_,_,_,_,_,_,_,_,_,_,_,_,_,_,_,_,_,_,_,K1.out.on (zF _ _).drew,K2.out.on (zF _ _).drew,HYN,rfl⟩
set_option maxRecDepth 1000000 in
set_option maxHeartbeats 8000000 in
theorem las_rest{w:World}{o:Od}{a:Option Addr}{c sk p:Nat}{l:List C22.Cl}{a1:Option Addr}{cap:Nat}{g0 g1 g3 g4 g7 g11 g18 g19 g20 g21 g22 g23 g24 g25 g26 g27 g28 g29 g30 g31 g32 g33 g34 g35 g36 g180 g12 g14 g15 g16 g17 g40 g41 g42 g43 g44 g45 g46 g47 g48 g49 g50 g51 g52 g53 g54 g55 g56 g57 g58 g59 g60 g61 g62 g63 g64 g65 g66 g67 g68 g69 g70 g71 g72 g73 g74 g75 g76 g77 g78 g79 g80 g81 g82 g83 g84 g85 g86 g87 g88 g89 g90 g91 g92 g93 g94 g95 g96 g97 g98 g99 g100 g101 g102 g103 g104 g105 g106 g107 g108 g109 g110 g111 g112 g113 g114 g115 g116 g117 g118 g119 g120 g121 g122 g123 g124 g125 g126 g127 g128 g129 g130 g131 g132 g133 g134 g135 g136 g137 g138 g139 g140 g141 g142 g143 g144 g145 g146 g147 g148 g149 g150 g151 g152 g153 g154 g155 g156 g157 g158 g159 g160 g161 g162 g163 g164 g165 g166 g167 g168 g169 g170 g171 g172 g173 g174 g175 g176 g177 g178 g179:Value}{wx:World}{Q1:Exit→Act→World→Prop}{j rc y:Nat}{s:Bool×Bool}{v0:Ch}{ra x:Option Addr}{ys xs:List Mg}{yb nb:Bool}(HM:Hid (mayO o=true))(HOD:Hid (OdIn w o a c))
 (HS:Hid (StI w o a c sk s p v0 ra rc ys x y xs wx)) (HY:Hid (SaidY o v0 yb nb)) (hn:∀a' w',LP w o a c sk p l a1 cap j g0 g1 g3 g4 g7 g11 g18 g19 g20 g21 g22 g23 g24 g25 g26 g27 g28 g29 g30 g31 g32 g33 g34 g35 g36 g180 a' w'→Q1 .normal a' w'):
 Code.wp Tryz.prog (sndC (sndC (sndC (blkC (fstC (sndC (sndC (((Tryz.f4.body.bind (fun c=>(loopsL c)[0]?)).getD .skip))))))))) Q1 ⟨#[g0,g1,.pointer (some ⟨w.heap.size,0,none⟩),g3,g4,.pointer (some ⟨p,0,none⟩),.slice ra ys.length rc,g7,.bool yb,.bool nb,.pointer (some ⟨sk,0,none⟩),g11,g12,.slice x xs.length y,g14,g15,g16,g17,g18,g19,g20,g21,g22,g23,g24,g25,g26,g27,g28,g29,g30,g31,g32,g33,g34,g35,g36,.slice a1 l.length cap,.int .i64 (l.length:Int),.int .i64 (j:Int),g40,g41,g42,g43,g44,g45,g46,g47,g48,g49,g50,g51,g52,g53,g54,g55,g56,g57,g58,g59,g60,g61,g62,g63,g64,g65,g66,g67,g68,g69,g70,g71,g72,g73,g74,g75,g76,g77,g78,g79,g80,g81,g82,g83,g84,g85,g86,g87,g88,g89,g90,g91,g92,g93,g94,g95,g96,g97,g98,g99,g100,g101,g102,g103,g104,g105,g106,g107,g108,g109,g110,g111,g112,g113,g114,g115,g116,g117,g118,g119,g120,g121,g122,g123,g124,g125,g126,g127,g128,g129,g130,g131,g132,g133,g134,g135,g136,g137,g138,g139,g140,g141,g142,g143,g144,g145,g146,g147,g148,g149,g150,g151,g152,g153,g154,g155,g156,g157,g158,g159,g160,g161,g162,g163,g164,g165,g166,g167,g168,g169,g170,g171,g172,g173,g174,g175,g176,g177,g178,g179,g180],[]⟩ wx:=by
 obtain⟨O',v',h1,h2,h3,h4⟩:=HS.out
 have HK:=hide h1
 have HA:=hide h2
 have HX:=hide h3
 have HY2:=hide (HY.out.gr h4)
 have HN:=hide hn
 clear hn h1 h2 h3 h4 HS HY
 conv=>arg 2;whnf
 refine wp_seq_k fun K hK=>?_
 have hR:∀(rb:Option Addr)(rd:Nat)(zs:List Mg)(h126 h127 h128 h129:Value),Hid (AnI wx O' rb rd zs o.id)→K ⟨#[g0,g1,.pointer (some ⟨w.heap.size,0,none⟩),g3,g4,.pointer (some ⟨p,0,none⟩),.slice rb zs.length rd,g7,.bool yb,.bool nb,.pointer (some ⟨sk,0,none⟩),g11,g12,.slice x xs.length y,g14,g15,g16,g17,g18,g19,g20,g21,g22,g23,g24,g25,g26,g27,g28,g29,g30,g31,g32,g33,g34,g35,g36,.slice a1 l.length cap,.int .i64 (l.length:Int),.int .i64 (j:Int),g40,g41,g42,g43,g44,g45,g46,g47,g48,g49,g50,g51,g52,g53,g54,g55,g56,g57,g58,g59,g60,g61,g62,g63,g64,g65,g66,g67,g68,g69,g70,g71,g72,g73,g74,g75,g76,g77,g78,g79,g80,g81,g82,g83,g84,g85,g86,g87,g88,g89,g90,g91,g92,g93,g94,g95,g96,g97,g98,g99,g100,g101,g102,g103,g104,g105,g106,g107,g108,g109,g110,g111,g112,g113,g114,g115,g116,g117,g118,g119,g120,g121,g122,g123,g124,g125,h126,h127,h128,h129,g130,g131,g132,g133,g134,g135,g136,g137,g138,g139,g140,g141,g142,g143,g144,g145,g146,g147,g148,g149,g150,g151,g152,g153,g154,g155,g156,g157,g158,g159,g160,g161,g162,g163,g164,g165,g166,g167,g168,g169,g170,g171,g172,g173,g174,g175,g176,g177,g178,g179,g180],[]⟩ wx:=fun rb rd zs _ _ _ _ HZ=>hK _ _ (las_rest2 HM HOD HK HZ HY2 HN.out)
 clear hK HN HK HY2
 by_cases hx:0<xs.length
 ·have q:(xs.length:Int)>0:=by omega
  go_wp2_with fail
  all_goals exact HX
 ·have q:¬(xs.length:Int)>0:=by omega
  go_wp2_with fail
  all_goals exact HA
end Go.Proofs.YthfgmpooehkhgaaGreatDoor
